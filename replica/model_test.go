package replica_test

import (
	"fmt"
	"math/rand"
	"testing"

	"trivet/api"
	"trivet/flash"
	"trivet/keeper"
	"trivet/record"
)

// model is what the chapter says, word by word, over a keeper of its own; votes and the book are reckoned here once more.
type model struct {
	n, self  int
	f        *flash.Flash
	k        *keeper.Keeper
	term     int64
	voted    int // -1: none
	standing bool
	has      map[int]bool // whose votes
	role     int
	leader   int // -1: none
	wait     int
	told     int64
	length   int64 // of the book
	next     map[int]int64
	like     map[int]int64
	slot     int64 // of the parts that come
	many     int
	parts    map[int]string
}

func modelOf(t testing.TB, f *flash.Flash, n, self int) *model {
	t.Helper()
	k, e := keeper.Open(f)
	must(t, e)
	m := &model{n: n, self: self, f: f, k: k, term: k.Term(), voted: -1, leader: -1}
	if who, given := k.Voted(); given {
		m.voted = who
	}
	return m
}

// seen is what one.seen tells.
func (m *model) seen() string {
	w := &one{nil, m.f, m.k}
	b := api.Ballot{}
	if m.leader >= 0 {
		b = api.Ballot{Round: m.term, Replica: m.leader}
	}
	head := fmt.Sprint("role ", m.role, " term ", m.term, " leader ", b, m.leader >= 0, " told ", m.told, " first ", m.k.First(), " upto ", m.k.Upto(), " broken ", m.k.Broken(), "\n")
	return head + w.kept()
}

func (m *model) others() []int {
	var l []int
	for i := range m.n {
		if i != m.self {
			l = append(l, i)
		}
	}
	return l
}

// say has the own number and term.
func (m *model) say(x api.Msg) api.Msg {
	x.From, x.Term = m.self, m.term
	return x
}

func (m *model) keeps(term int64, voted int, standing bool) api.Errno {
	e := m.k.Vote(term, voted)
	if e == api.OK {
		m.term, m.voted = term, voted
		if standing {
			m.standing, m.has = true, map[int]bool{m.self: true}
		}
	}
	return e
}

func (m *model) hears(term int64) api.Errno {
	e := m.keeps(term, -1, false)
	if e == api.OK {
		m.standing, m.has, m.role, m.leader = false, nil, api.RoleFollow, -1
	}
	return e
}

func (m *model) sends(i int) []api.Msg {
	n := m.next[i]
	if n < m.k.First() {
		s, _ := m.k.State()
		b, many := s.Data, 1
		for many*api.MaxData < len(b) {
			many++
		}
		var l []api.Msg
		for j := range many {
			size := min(len(b), api.MaxData)
			p := api.Part{Slot: s.Slot, Index: j, Many: many, Data: b[:size]}
			b = b[size:]
			l = append(l, m.say(api.Msg{Kind: api.MsPart, To: i, Slot: s.Slot, Last: s.Last, Part: p}))
		}
		return l
	}
	x := api.Msg{Kind: api.MsAppend, To: i, Slot: n, Commit: m.k.Upto()}
	if n > 0 {
		x.Last, _ = m.k.TermAt(n - 1)
	}
	for slot := n; slot < m.k.Length() && slot < n+64; slot++ {
		y, _ := m.k.At(slot)
		x.List = append(x.List, y)
	}
	m.next[i] = n + int64(len(x.List))
	return []api.Msg{m.say(x)}
}

func (m *model) sendsAll() []api.Msg {
	var l []api.Msg
	for _, i := range m.others() {
		l = append(l, m.sends(i)...)
	}
	return l
}

func (m *model) agrees() {
	for a := m.length; a > m.k.Upto(); a-- {
		have := 1
		for _, like := range m.like {
			if like >= a {
				have++
			}
		}
		if 2*have <= m.n {
			continue
		}
		if term, _ := m.k.TermAt(a - 1); term == m.term {
			m.k.Commit(a)
		}
		return
	}
}

func (m *model) leads() ([]api.Msg, api.Errno) {
	m.role, m.leader, m.wait = api.RoleLead, m.self, 0
	m.length, m.next, m.like = m.k.Length(), map[int]int64{}, map[int]int64{}
	for _, i := range m.others() {
		m.next[i], m.like[i] = m.length, 0
	}
	e := m.k.Append(m.k.Length(), api.Termed{Term: m.term})
	if m.k.Broken() {
		return nil, e
	}
	if e == api.OK {
		m.length = m.k.Length()
	}
	m.agrees()
	return m.sendsAll(), api.OK
}

func (m *model) tick() ([]api.Msg, api.Errno) {
	if m.k.Broken() {
		return nil, api.ErrBroken
	}
	if m.role == api.RoleLead {
		return m.sendsAll(), api.OK
	}
	m.wait++
	if m.wait != 4+2*m.self {
		return nil, api.OK
	}
	m.wait = 0
	if m.term == top {
		return nil, api.ErrLong
	}
	if e := m.keeps(m.term+1, m.self, true); e != api.OK {
		return nil, e
	}
	m.role, m.leader = api.RoleStand, -1
	if m.n == 1 {
		return m.leads()
	}
	var l []api.Msg
	for _, i := range m.others() {
		l = append(l, m.say(api.Msg{Kind: api.MsVote, To: i, Slot: m.k.Length(), Last: m.k.Last()}))
	}
	return l, api.OK
}

func (m *model) propose(x api.Entry) ([]api.Msg, api.Errno) {
	if m.k.Broken() {
		return nil, api.ErrBroken
	}
	if e := record.CheckEntry(x); e != api.OK {
		return nil, e
	}
	if m.role != api.RoleLead {
		if m.leader < 0 {
			return nil, api.ErrLeader
		}
		return []api.Msg{{Kind: api.MsForward, From: m.self, To: m.leader, Entry: x}}, api.OK
	}
	if m.k.Length()-m.k.Upto() >= 64 {
		return nil, api.ErrFull
	}
	if e := m.k.Append(m.k.Length(), api.Termed{Term: m.term, Entry: x}); e != api.OK {
		return nil, e
	}
	m.length = m.k.Length()
	m.agrees()
	var l []api.Msg
	for _, i := range m.others() {
		if m.next[i] >= m.k.First() {
			l = append(l, m.sends(i)...)
		}
	}
	return l, api.OK
}

// passes is the answer where the keeper has refused something.
func (m *model) passes(e api.Errno) ([]api.Msg, api.Errno) {
	if m.k.Broken() {
		return nil, e
	}
	return nil, api.OK
}

func (m *model) step(x api.Msg) ([]api.Msg, api.Errno) {
	if m.k.Broken() {
		return nil, api.ErrBroken
	}
	if record.CheckMsg(x) != api.OK || x.To != m.self || x.From == m.self || x.From >= m.n {
		return nil, api.ErrMessage
	}
	if x.Kind == api.MsForward {
		if m.role != api.RoleLead {
			return nil, api.OK
		}
		l, e := m.propose(x.Entry)
		if e != api.OK {
			return m.passes(e)
		}
		return l, e
	}
	if x.Term > m.term {
		if e := m.hears(x.Term); e != api.OK {
			return m.passes(e)
		}
	}
	voted := func(yes bool) ([]api.Msg, api.Errno) {
		return []api.Msg{m.say(api.Msg{Kind: api.MsVoted, To: x.From, Yes: yes})}, api.OK
	}
	appended := func(yes bool, slot int64) ([]api.Msg, api.Errno) {
		return []api.Msg{m.say(api.Msg{Kind: api.MsAppended, To: x.From, Yes: yes, Slot: slot})}, api.OK
	}
	if x.Term < m.term {
		switch x.Kind {
		case api.MsVote:
			return voted(false)
		case api.MsAppend, api.MsPart:
			return appended(false, 0)
		}
		return nil, api.OK
	}
	switch x.Kind {
	case api.MsVote:
		behind := m.k.Last() > x.Last || m.k.Last() == x.Last && m.k.Length() > x.Slot
		if m.voted >= 0 && m.voted != x.From || behind {
			return voted(false)
		}
		if e := m.keeps(m.term, x.From, false); e != api.OK {
			return m.passes(e)
		}
		m.wait = 0
		return voted(true)
	case api.MsVoted:
		if !m.standing || !x.Yes || m.has[x.From] {
			return nil, api.OK
		}
		m.has[x.From] = true
		if len(m.has) != m.n/2+1 {
			return nil, api.OK
		}
		return m.leads()
	case api.MsAppended:
		return m.appended(x), api.OK
	}
	if m.role == api.RoleLead {
		return nil, api.OK
	}
	m.role, m.leader, m.wait = api.RoleFollow, x.From, 0
	if x.Kind == api.MsPart {
		return m.part(x, appended)
	}
	return m.append(x, appended)
}

func (m *model) append(x api.Msg, appended func(bool, int64) ([]api.Msg, api.Errno)) ([]api.Msg, api.Errno) {
	slot, l := x.Slot, x.List
	if slot > m.k.Length() {
		return appended(false, m.k.Length())
	}
	if slot < m.k.First() {
		for len(l) > 0 && slot < m.k.First() {
			slot, l = slot+1, l[1:]
		}
	} else if slot > 0 {
		if term, _ := m.k.TermAt(slot - 1); term != x.Last {
			s := slot - 1
			for s > m.k.Upto() {
				if here, _ := m.k.TermAt(s - 1); here != term {
					break
				}
				s--
			}
			return appended(false, s)
		}
	}
	if len(l) > 0 {
		if e := m.k.Append(slot, l...); e != api.OK {
			return m.passes(e)
		}
	}
	behind := x.Slot + int64(len(x.List))
	to := x.Commit
	if behind < to {
		to = behind
	}
	if to > m.k.Upto() && to <= m.k.Length() {
		m.k.Commit(to)
	}
	return appended(true, behind)
}

func (m *model) appended(x api.Msg) []api.Msg {
	if m.role != api.RoleLead {
		return nil
	}
	i := x.From
	if x.Yes {
		if x.Slot > m.length {
			return nil
		}
		if x.Slot > m.like[i] {
			m.like[i] = x.Slot
		}
		if m.next[i] < m.like[i] {
			m.next[i] = m.like[i]
		}
	} else if x.Slot < m.next[i] {
		m.next[i] = x.Slot
		if m.like[i] > x.Slot {
			m.next[i] = m.like[i]
		}
	}
	m.agrees()
	if !x.Yes || m.next[i] < m.k.Length() {
		return m.sends(i)
	}
	return nil
}

func (m *model) part(x api.Msg, appended func(bool, int64) ([]api.Msg, api.Errno)) ([]api.Msg, api.Errno) {
	if x.Slot <= m.k.Upto() {
		return appended(true, x.Slot)
	}
	if x.Part.Many > 64 || x.Part.Slot != x.Slot {
		return nil, api.OK
	}
	if len(m.parts) == 0 || m.slot != x.Slot || m.many != x.Part.Many {
		m.slot, m.many, m.parts = x.Slot, x.Part.Many, map[int]string{}
	}
	m.parts[x.Part.Index] = string(x.Part.Data)
	data := ""
	for i := range m.many {
		b, is := m.parts[i]
		if !is {
			return nil, api.OK
		}
		data += b
	}
	m.parts = nil
	if e := m.k.Install(api.Saved{Slot: x.Slot, Last: x.Last, Data: []byte(data)}); e != api.OK {
		return m.passes(e)
	}
	return appended(true, x.Slot)
}

func (m *model) restore() (int64, []byte, bool) {
	if m.k.First() <= m.told {
		return 0, nil, false
	}
	s, _ := m.k.State()
	m.told = s.Slot
	return s.Slot, s.Data, true
}

func (m *model) nextOne() (int64, api.Entry, bool) {
	if m.k.First() > m.told || m.told >= m.k.Upto() {
		return 0, api.Entry{}, false
	}
	x, _ := m.k.At(m.told)
	m.told++
	return m.told - 1, x.Entry, true
}

func (m *model) checkpoint(slot int64, data []byte) api.Errno {
	if m.k.Broken() {
		return api.ErrBroken
	}
	if slot > m.told {
		return api.ErrArg
	}
	return m.k.Checkpoint(slot, data)
}

// draw draws calls for a replica that is like the model.
type draw struct {
	*rand.Rand
	m *model
	n int64 // of batches
}

func (d *draw) of(l ...int64) int64 { return l[d.Intn(len(l))] }

func (d *draw) slot() int64 {
	k := d.m.k
	return max(0, d.of(0, k.First()-1, k.First(), k.First()+1, k.Upto()-1, k.Upto(), k.Upto()+1, k.Length()-1, k.Length(), k.Length(), k.Length(), k.Length()+1, k.Length()+5, d.Int63n(k.Length()+1)))
}

func (d *draw) near() int64 { return max(0, d.m.term+d.of(-1, 0, 0, 0, 0, 0, 0, 0, 0, 0, 1, 2)) }

func (d *draw) entry() api.Entry {
	d.n++
	switch d.Intn(12) {
	case 0:
		return api.Entry{}
	case 1:
		return wide(d.n)
	case 2:
		return wrong()[d.Intn(len(wrong()))]
	}
	return batch(d.n)
}

// list draws entries of which many stand in the log already.
func (d *draw) list(slot int64) []api.Termed {
	var l []api.Termed
	many := d.Intn(5)
	if d.Intn(30) == 0 {
		many = d.Intn(80)
	}
	term := max(0, d.m.term-d.Int63n(3))
	for i := range int64(many) {
		x := termed(term, d.entry())
		if y, has := d.m.k.At(slot + i); has && d.Intn(4) > 0 {
			x = y
		}
		if x.Entry.Kind == api.EnBatch && len(x.Entry.Txns) == 0 || record.CheckEntry(x.Entry) != api.OK && d.Intn(10) > 0 {
			x.Entry = api.Entry{}
		}
		l = append(l, x)
	}
	return l
}

func (d *draw) msg() api.Msg {
	m := d.m
	from := d.Intn(m.n)
	if d.Intn(20) == 0 {
		from = d.Intn(7) - 1
	}
	to, term, slot := m.self, d.near(), d.slot()
	if d.Intn(40) == 0 {
		to = d.Intn(7) - 1
	}
	last, _ := m.k.TermAt(slot - 1)
	if d.Intn(4) == 0 {
		last = max(0, last+d.of(-1, 1, 2))
	}
	switch d.Intn(12) {
	case 0:
		return asks(from, to, term, d.slot(), max(0, m.k.Last()+d.of(-1, 0, 0, 1)))
	case 1, 2:
		return votes(from, to, term, d.Intn(5) > 0)
	case 3, 4, 5, 6:
		return sends(from, to, term, slot, last, d.slot(), d.list(slot)...)
	case 7, 8, 9:
		return tells(from, to, term, d.Intn(3) > 0, slot)
	case 10:
		many := int(d.of(1, 2, 2, 2, 64, 65))
		x := hands(from, to, term, m.k.Upto()+d.of(-1, 0, 1, 1, 2, 2, 9), last, d.Intn(many), many, filled(d.Intn(40)*d.Intn(40)))
		if x.Slot < 0 {
			x.Slot, x.Part.Slot = 0, 0
		}
		if d.Intn(20) == 0 {
			x.Part.Slot++
		}
		return x
	}
	return forwards(from, to, d.entry())
}

// call does one drawn call of both, and answers what came of it as texts.
func (d *draw) call(t testing.TB, o *one) (name, got, want string) {
	both := func(l []api.Msg, e api.Errno) string { return fmt.Sprint(e, "\n", texts(l...)) }
	switch k := d.Intn(100); {
	case k < 30:
		return "Tick", both(o.Tick()), both(d.m.tick())
	case k < 70:
		x := d.msg()
		return "Step " + texts(x), both(o.Step(x)), both(d.m.step(x))
	case k < 80:
		x := d.entry()
		return fmt.Sprint("Propose ", x), both(o.Propose(x)), both(d.m.propose(x))
	case k < 84:
		return "Restore", fmt.Sprint(o.Restore()), fmt.Sprint(d.m.restore())
	case k < 92:
		return "Next", fmt.Sprint(o.Next()), fmt.Sprint(d.m.nextOne())
	case k < 96:
		slot := d.slot()
		if d.Intn(2) == 0 {
			slot = d.m.told
		}
		data := []byte(filled(d.Intn(60) * d.Intn(60)))
		return fmt.Sprint("Checkpoint ", slot), fmt.Sprint(o.Checkpoint(slot, data)), fmt.Sprint(d.m.checkpoint(slot, data))
	case k < 98:
		count, keep := 1+d.Intn(12), d.Intn(3)
		return fmt.Sprint("SetFuse ", count, keep), fmt.Sprint(o.f.SetFuse(count, keep)), fmt.Sprint(d.m.f.SetFuse(count, keep))
	default:
		name := "nothing"
		if k == 98 || d.m.k.Broken() {
			name = "New"
			for _, f := range []*flash.Flash{o.f, d.m.f} {
				f.Crash()
				must(t, f.Restart())
			}
			n, self := d.m.n, d.m.self
			*o = *opened(t, o.f, n, self)
			*d.m = *modelOf(t, d.m.f, n, self)
		}
		return name, "", ""
	}
}

// P10.1 to P10.5, R1, R2, R6: drawn calls of a replica answer what the model does, and leave the same flash.
func TestDrawnCalls(t *testing.T) {
	led, full, cut := 0, 0, 0
	for seed := range int64(400) {
		r := rand.New(rand.NewSource(seed))
		blocks := []int{8, 9, 12, 40}[r.Intn(4)]
		n := 1 + r.Intn(api.MaxReplicas)
		self := r.Intn(n)
		f, k := kept(t, blocks, hasVote([]int64{0, 5, top - 3}[r.Intn(3)], -1))
		same(t, k.Broken(), false)
		o := opened(t, f, n, self)
		d := &draw{Rand: r, m: modelOf(t, f.Clone(), n, self)}
		for step := range 250 {
			name, got, want := d.call(t, o)
			if got != want {
				t.Fatalf("seed %d, step %d: %s: %s\nnot %s", seed, step, name, got, want)
			}
			if now, was := o.seen(), d.m.seen(); now != was || !flash.Same(o.f, d.m.f) {
				t.Fatalf("seed %d, step %d: %s: it is\n%s\nnot\n%s", seed, step, name, now, was)
			}
			if o.Role() == api.RoleLead {
				led++
			}
			if o.k.Room() < 9 {
				full++
			}
			if o.First() > 0 {
				cut++
			}
		}
	}
	if led < 5000 || full < 5000 || cut < 5000 {
		t.Error("few steps of leaders, of full keepers, of logs that are cut:", led, full, cut)
	}
}
