package keeper_test

import (
	"bytes"
	"math/rand"
	"slices"
	"testing"

	"trivet/api"
	"trivet/ckpt"
	"trivet/flash"
	"trivet/journal"
	"trivet/keeper"
	"trivet/record"
)

// model is the chapter's words once more, without regard to time: entries stand by their slots, numbers are made and taken by hand.
type model struct {
	f      *flash.Flash
	j      *journal.Log
	term   int64
	who    int // -1: none
	saved  api.Saved
	has    bool
	length int64
	log    map[int64]api.Termed
	upto   int64
	broken bool
}

// takes is the number with which bytes begin, in just its own form.
func takes(b []byte) (n int64, rest []byte, ok bool) {
	defer func() {
		if recover() != nil {
			n, rest, ok = 0, nil, false
		}
	}()
	if b[0] > 16 { // below 0 ones of eight bytes are not drawn
		return 0, nil, false
	}
	n, rest = numberOf(b)
	return n, rest, bytes.HasPrefix(b, numeral(n))
}

// unblob is the blob that bytes are, as a whole.
func unblob(b []byte) ([]byte, bool) {
	n, rest, ok := takes(b)
	return rest, ok && n == int64(len(rest))
}

// start is P9.1.
func start(f *flash.Flash) (*model, api.Errno) {
	m := &model{f: f, who: -1, log: map[int64]api.Termed{}}
	saves, ring := parts(f)
	s, has, e := ckpt.Load(f, saves)
	if e != api.OK {
		return nil, e
	}
	first := int64(0)
	if has {
		n, rest, ok := takes(s.Data)
		data, is := unblob(rest)
		if !ok || !is {
			return nil, api.ErrFlash
		}
		first, m.has, m.saved = n, true, api.Saved{Slot: s.Slot, Last: s.Last, Data: data}
	}
	m.upto, m.length = m.saved.Slot, m.saved.Slot
	if m.j, e = journal.Open(f, ring, first); e != api.OK {
		return nil, e
	}
	for _, b := range m.j.Records() {
		if !m.do(b) {
			return nil, api.ErrFlash
		}
	}
	return m, api.OK
}

// do does a record.
func (m *model) do(b []byte) bool {
	kind, b, ok := takes(b)
	if !ok {
		return false
	}
	x, b, ok := takes(b)
	if !ok {
		return false
	}
	y, b, ok := takes(b)
	if !ok || x < 0 || x > top || y < 0 || y > top {
		return false
	}
	switch {
	case (kind == 1 || kind == 3) && y <= 5 && len(b) == 0:
		m.term, m.who = x, int(y)-1
		return true
	case kind == 2 && x <= m.length:
		form, ok := unblob(b)
		entry, e := record.TakeEntry(form)
		if !ok || e != api.OK {
			return false
		}
		if x >= m.saved.Slot {
			m.put(x, api.Termed{Term: y, Entry: entry})
		}
		return true
	}
	return false
}

func (m *model) put(slot int64, x api.Termed) {
	if was, has := m.log[slot]; has && was.Term == x.Term {
		return
	}
	for at := slot; at < m.length; at++ {
		delete(m.log, at)
	}
	m.log[slot], m.length = x, slot+1
}

// leaves is how many pages a record has.
func leaves(b []byte) int {
	n := 1
	for len(b) > 200 {
		b, n = b[200:], n+1
	}
	return n
}

// reserve is that of the log up to a slot.
func (m *model) reserve(upto int64) int {
	n := 1
	for slot := m.saved.Slot; slot < upto; slot++ {
		n += leaves(line(slot, m.log[slot]))
	}
	return n
}

// told takes what the journal or the checkpoint has answered.
func (m *model) told(e api.Errno) api.Errno {
	m.broken = m.broken || e != api.OK && e != api.ErrFull && e != api.ErrLong && e != api.ErrArg
	return e
}

func (m *model) write(b []byte) api.Errno {
	_, e := m.j.Append(b...)
	return m.told(e)
}

// vote is P9.2.
func (m *model) vote(term int64, who int) api.Errno {
	switch {
	case m.broken:
		return api.ErrBroken
	case term < m.term || term > top || who < -1 || who > 4:
		return api.ErrArg
	case term == m.term && m.who != -1 && m.who != who:
		return api.ErrArg
	case term == m.term && m.who == who:
		return api.OK
	case m.j.Room()-1 < m.reserve(m.length):
		return api.ErrFull
	}
	if e := m.write(numbers(1, term, int64(who)+1)); e != api.OK {
		return e
	}
	m.term, m.who = term, who
	return api.OK
}

// append is P9.3.
func (m *model) append(slot int64, l []api.Termed) api.Errno {
	if m.broken {
		return api.ErrBroken
	}
	if slot < m.saved.Slot || slot > m.length || slot+int64(len(l)) > top {
		return api.ErrSlot
	}
	for i, x := range l {
		was, has := m.log[slot+int64(i)]
		if x.Term < 0 || x.Term > top {
			return api.ErrArg
		}
		if e := record.CheckEntry(x.Entry); e != api.OK {
			return e
		}
		if slot+int64(i) < m.upto && (!has || was.Term != x.Term) {
			return api.ErrClash
		}
	}
	for len(l) > 0 {
		if was, has := m.log[slot]; !has || was.Term != l[0].Term {
			break
		}
		slot, l = slot+1, l[1:]
	}
	if len(l) == 0 {
		return api.OK
	}
	_, ring := parts(m.f)
	need, spare := 0, min(64, ring.Blocks*16/8)
	if !slices.ContainsFunc(l, func(x api.Termed) bool { return x.Entry.Kind != api.EnNone }) {
		spare /= 2
	}
	for i, x := range l {
		need += leaves(line(slot+int64(i), x))
	}
	if m.j.Room()-need < m.reserve(slot)+need+spare {
		return api.ErrFull
	}
	for i, x := range l {
		if e := m.write(line(slot+int64(i), x)); e != api.OK {
			return e
		}
		m.put(slot+int64(i), x)
	}
	return api.OK
}

func (m *model) commit(upto int64) api.Errno {
	if m.broken {
		return api.ErrBroken
	}
	if upto < m.upto || upto > m.length {
		return api.ErrSlot
	}
	m.upto = upto
	return api.OK
}

func (m *model) termAt(slot int64) (int64, bool) {
	if x, has := m.log[slot]; has {
		return x.Term, true
	}
	return m.saved.Last, m.has && slot == m.saved.Slot-1
}

// checkpoint and install are P9.5.
func (m *model) checkpoint(slot int64, data []byte) api.Errno {
	if m.broken {
		return api.ErrBroken
	}
	if slot <= m.saved.Slot || slot > m.upto {
		return api.ErrSlot
	}
	return m.save(api.Saved{Slot: slot, Last: m.log[slot-1].Term, Data: data}, true)
}

func (m *model) install(s api.Saved) api.Errno {
	if m.broken {
		return api.ErrBroken
	}
	if s.Slot <= m.upto || s.Slot > top {
		return api.ErrSlot
	}
	if s.Last < 0 || s.Last > top {
		return api.ErrArg
	}
	last, has := m.termAt(s.Slot - 1)
	return m.save(s, has && last == s.Last)
}

func (m *model) save(s api.Saved, stay bool) api.Errno {
	saves, _ := parts(m.f)
	log, length, need := map[int64]api.Termed{}, s.Slot, 1
	for slot := s.Slot; stay && slot < m.length; slot++ {
		log[slot], length = m.log[slot], slot+1
		need += leaves(line(slot, m.log[slot]))
	}
	if len(blob(s.Data))+10 > ckpt.Most(saves) || need > m.j.Room() {
		return api.ErrFull
	}
	base := m.j.Next()
	if e := m.write(numbers(3, m.term, int64(m.who)+1)); e != api.OK {
		return e
	}
	for slot := s.Slot; slot < length; slot++ {
		if e := m.write(line(slot, log[slot])); e != api.OK {
			return e
		}
	}
	data := slices.Concat(numbers(base), blob(s.Data))
	if e := m.told(ckpt.Save(m.f, saves, api.Saved{Slot: s.Slot, Last: s.Last, Data: data})); e != api.OK {
		return e
	}
	m.j.Trim(base)
	m.saved, m.has, m.log, m.length, m.upto = s, true, log, length, max(m.upto, s.Slot)
	return api.OK
}

// look is all that the model tells.
func (m *model) look() seen {
	_, ring := parts(m.f)
	room := max(0, m.j.Room()-m.reserve(m.length))
	last, _ := m.termAt(m.length - 1)
	if !m.has && m.length == 0 {
		last = 0
	}
	var l []api.Termed
	for slot := m.saved.Slot; slot < m.length; slot++ {
		l = append(l, m.log[slot])
	}
	k := kept{term: m.term, who: max(0, m.who), voted: m.who >= 0, first: m.saved.Slot, length: m.length, log: texts(l...), saved: savedText(m.saved), has: m.has}
	return seen{kept: k, upto: m.upto, last: last, room: room, low: room < ring.Blocks*16/4, broken: m.broken}
}

// pair is a keeper and its model, on flashes of their own.
type pair struct {
	k *keeper.Keeper
	m *model
}

// agrees fails the test, unless both tell the same, and their flashes are the same.
func (p pair) agrees(t *testing.T, name any) {
	t.Helper()
	if got, want := look(t, p.k), p.m.look(); got != want {
		t.Fatalf("%v: %+v, not %+v", name, got, want)
	}
}

// drawnEntry is an entry that mostly may be.
func drawnEntry(t testing.TB, draw *rand.Rand, term int64) api.Termed {
	switch draw.Intn(12) {
	case 0, 1, 2, 3, 4:
		return none(term)
	case 5:
		return wide(t, term, 2+draw.Intn(5))
	case 6:
		return long(t, term, 186+draw.Intn(10)) // about a page
	case 7:
		if draw.Intn(6) == 0 {
			return api.Termed{Term: term, Entry: api.Entry{Kind: draw.Intn(3), Number: 1}}
		}
	}
	return batch(term, draw.Int63n(1000))
}

// drawnCall does a call of both, with what mostly may be, and is its name and what they answered.
func (p pair) drawnCall(t *testing.T, draw *rand.Rand) (string, api.Errno, api.Errno) {
	k, m := p.k, p.m
	near := func(n int64) int64 { return n + int64(draw.Intn(2)*(draw.Intn(7)-3)) }
	switch draw.Intn(20) {
	case 0, 1, 2, 3:
		term, who := m.term+int64(draw.Intn(4)-1), draw.Intn(8)-2
		return "Vote", k.Vote(term, who), m.vote(term, who)
	case 4, 5, 6, 7, 8, 9, 10, 11, 12:
		slot := near(m.length)
		if draw.Intn(4) == 0 {
			slot = near(m.upto)
		}
		var l []api.Termed
		for i := range draw.Intn(4) * (1 + draw.Intn(2)) {
			term := max(0, m.look().last+int64(draw.Intn(3)-1))
			if was, has := m.log[slot+int64(i)]; has && draw.Intn(4) > 0 {
				term = was.Term
			}
			if draw.Intn(80) == 0 {
				term = []int64{-1, top, top + 1}[draw.Intn(3)]
			}
			l = append(l, drawnEntry(t, draw, term))
		}
		return "Append", k.Append(slot, l...), m.append(slot, l)
	case 13, 14, 15, 16:
		upto := near(m.upto + int64(draw.Intn(4)))
		return "Commit", k.Commit(upto), m.commit(upto)
	case 17, 18:
		slot := m.saved.Slot + draw.Int63n(m.upto-m.saved.Slot+2)
		data := filled(draw.Intn(1 + draw.Intn(9000)))
		return "Checkpoint", k.Checkpoint(slot, data), m.checkpoint(slot, data)
	}
	s := api.Saved{Slot: m.upto + int64(draw.Intn(5)), Last: m.term, Data: filled(draw.Intn(500))}
	if term, has := m.termAt(s.Slot - 1); has && draw.Intn(2) == 0 {
		s.Last = term
	}
	return "Install", k.Install(s), m.install(s)
}

// P9.1 to P9.7, R2, R6: drawn calls, with the power going now and then, and keepers opened again, are answered as the model does it, and leave the same flash.
func TestAgainstTheModel(t *testing.T) {
	errors, done, opens := map[api.Errno]int{}, map[string]int{}, 0
	for seed := range int64(120) {
		draw := rand.New(rand.NewSource(seed))
		f := made(t, 8+draw.Intn(6))
		p := pair{k: opened(t, f)}
		p.m, _ = start(f.Clone())
		for n := range 150 {
			if !f.Down() && draw.Intn(15) == 0 {
				count, keep := 1+draw.Intn(12), draw.Intn(3)
				must(t, f.SetFuse(count, keep))
				must(t, p.m.f.SetFuse(count, keep))
			}
			name, got, want := p.drawnCall(t, draw)
			if got != want {
				t.Fatal("seed", seed, "call", n, name, "answers", got, "not", want)
			}
			errors[got]++
			if got == api.OK {
				done[name]++
			}
			p.agrees(t, seed)
			if !flash.Same(f, p.m.f) {
				t.Fatal("seed", seed, "call", n, "the flashes are not the same")
			}
			if !p.m.broken && draw.Intn(30) > 0 {
				continue
			}
			if p.m.broken && draw.Intn(3) == 0 {
				continue // for what a broken one answers
			}
			if !f.Down() {
				must(t, f.Crash())
				must(t, p.m.f.Crash())
			}
			must(t, f.Restart())
			must(t, p.m.f.Restart())
			p.k = opened(t, f)
			var e api.Errno
			if p.m, e = start(p.m.f); e != api.OK {
				t.Fatal("seed", seed, e)
			}
			opens++
			p.agrees(t, seed)
		}
	}
	for _, e := range []api.Errno{api.OK, api.ErrArg, api.ErrField, api.ErrSlot, api.ErrClash, api.ErrFull, api.ErrDown, api.ErrBroken} {
		if errors[e] < 20 {
			t.Error("only", errors[e], "times", e)
		}
	}
	if opens < 500 || done["Vote"] < 1000 || done["Append"] < 1000 || done["Commit"] < 1000 || done["Checkpoint"] < 200 || done["Install"] < 200 {
		t.Error(opens, done)
	}
}

// P9.1: drawn records, some of them spoilt, are found as the model finds them.
func TestOpenAgainstTheModel(t *testing.T) {
	good, bad := 0, 0
	for seed := range int64(3000) {
		draw := rand.New(rand.NewSource(seed))
		s := api.Saved{}
		if draw.Intn(2) == 0 {
			s = api.Saved{Slot: draw.Int63n(4), Last: draw.Int63n(4), Data: slices.Concat(numbers(draw.Int63n(3)), blob(filled(draw.Intn(300))))}
		}
		var l [][]byte
		length := s.Slot
		for range draw.Intn(9) {
			slot := max(0, length-int64(draw.Intn(2)*draw.Intn(3)))
			var b []byte
			switch draw.Intn(4) {
			case 0:
				b = numbers(1+2*draw.Int63n(2), draw.Int63n(9), draw.Int63n(6))
			default:
				b = line(slot, drawnEntry(t, draw, draw.Int63n(4)))
				length = max(length, slot+1)
			}
			if draw.Intn(25) == 0 {
				b[draw.Intn(min(12, len(b)))] ^= byte(1 << draw.Intn(8))
			}
			if draw.Intn(60) == 0 {
				b = b[:draw.Intn(len(b))]
			}
			l = append(l, b)
		}
		f := laid(t, s, 0, l...)
		m, want := start(f.Clone())
		k, got := keeper.Open(f)
		if got != want || (k == nil) != (got != api.OK) {
			t.Fatal("seed", seed, "answers", k, got, "not", want)
		}
		if got == api.OK {
			pair{k, m}.agrees(t, seed)
			good++
		} else {
			bad++
		}
	}
	if good < 500 || bad < 500 {
		t.Error(good, bad)
	}
}
