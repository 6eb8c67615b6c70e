package serial_test

import (
	"fmt"
	"math/rand"
	"slices"
	"testing"

	"trivet/api"
	"trivet/eval"
	"trivet/serial"
)

// deed is a transaction, and what it comes to of cells, reckoned without running its code: its end, what it answers, what it changes.
type deed struct {
	txn  api.Txn
	mean func(m []api.Cell) (int, []int64, []api.Change)
}

// model is a machine in lists; all is reckoned by the chapter's words, each time by going through these.
type model struct {
	slot  int64
	cells []api.Cell
	rows  []api.Row
	done  int // how many transactions
}

// value is what a key has in cells, and whether it has anything.
func value(m []api.Cell, k api.Key) (int64, bool) {
	for _, x := range m {
		if x.Key == k {
			return x.Value, true
		}
	}
	return 0, false
}

// changed is cells, which rise, behind a change.
func changed(m []api.Cell, x api.Change, slot int64) []api.Cell {
	var out []api.Cell
	for _, y := range m {
		if y.Key != x.Key {
			out = append(out, y)
		}
	}
	if x.Erase {
		return out
	}
	i := 0
	for i < len(out) && (out[i].Key.Table < x.Key.Table || out[i].Key.Table == x.Key.Table && out[i].Key.Row < x.Key.Row) {
		i++
	}
	return slices.Insert(out, i, cell(x.Key, x.Value, slot))
}

// step is what Step tells.
func (m *model) step(x deed, place int) (api.Result, []api.Cell) {
	end, values, l := x.mean(m.cells)
	r := api.Result{End: end, Slot: m.slot, Place: place}
	now := m.cells
	if end == api.EndOK {
		r.Values = values
		for _, y := range l {
			now = changed(now, y, m.slot)
		}
	}
	return r, now
}

// row is where the session's row is, or where it would be.
func (m *model) row(session int64) (int, bool) {
	i := 0
	for i < len(m.rows) && m.rows[i].Session < session {
		i++
	}
	return i, i < len(m.rows) && m.rows[i].Session == session
}

func (m *model) apply(kind int, l []deed) []api.Answer {
	var out []api.Answer
	for place, x := range l {
		if kind != 1 {
			break
		}
		who, what := x.txn.Session, x.txn.Request
		i, has := m.row(who)
		next := !has && what == 1 && who >= 1 && who <= maxTime && len(m.rows) < maxSessions || has && what == m.rows[i].Request+1 && what <= maxTime
		switch {
		case has && m.rows[i].Request == what:
		case next:
			r, now := m.step(x, place)
			m.cells = now
			m.done++
			if !has {
				m.rows = slices.Insert(m.rows, i, api.Row{})
			}
			m.rows[i] = api.Row{Session: who, Request: what, Result: r}
		default:
			continue
		}
		out = append(out, api.Answer{Session: who, Request: what, Result: m.rows[i].Result})
	}
	m.slot++
	return out
}

// look is what the function look tells of a machine.
func (m *model) look() string { return fmt.Sprintf("%d %+v %+v", m.slot, m.cells, m.rows) }

// entry is deeds as an entry of that kind.
func entry(kind int, l []deed) api.Entry {
	e := api.Entry{Kind: kind}
	for _, x := range l {
		e.Txns = append(e.Txns, x.txn)
	}
	return e
}

// few are the keys that are drawn from, rising.
func few() []api.Key { return keys(key(minTable, maxRow), a, b, c, d, key(maxTable, minRow)) }

// drawnKeys are some of the keys, at least one.
func drawnKeys(r *rand.Rand) []api.Key {
	of := few()
	l := keys(of[r.Intn(len(of)-1)])
	for _, k := range of[slices.Index(of, l[0])+1:] {
		if r.Intn(3) == 0 {
			l = append(l, k)
		}
	}
	return l
}

// sums writes the sum of what it reads, and of a number, to all keys that it may write, and answers it; if that is even and it may abort, it aborts then.
func sums(reads, writes []api.Key, n int64, may bool) deed {
	l := []api.Instr{argument(0, 0)}
	for i := range reads {
		l = append(l, load(1, int64(i)), add(0, 1))
	}
	for i := range writes {
		l = append(l, store(0, int64(i)))
	}
	l = append(l, out(0))
	if may { // 13 bytes stand ahead of the last instruction, to which it jumps
		size := int64(3 + 6*len(reads) + 3*len(writes) + 2)
		l = append(l, constant(2, 1), instr(api.InAnd, 2, 0, 0), instr(api.InJumpIf, 2, 0, size+13), abort(9), api.Instr{})
	}
	return deed{given(with(txn(l...), reads, writes), n), func(m []api.Cell) (int, []int64, []api.Change) {
		sum := n
		for _, k := range reads {
			v, _ := value(m, k)
			sum += v
		}
		var put []api.Change
		for _, k := range writes {
			put = append(put, api.Change{Key: k, Value: sum})
		}
		if may && sum%2 == 0 {
			return 109, nil, nil
		}
		return 0, numbers(sum), put
	}}
}

// tells answers of each of some keys what it has, and whether it has anything.
func tells(reads []api.Key) deed {
	reads = reads[:min(4, len(reads))]
	var l []api.Instr
	for i := range reads {
		l = append(l, load(0, int64(i)), has(1, int64(i)), out(0), out(1))
	}
	return deed{with(txn(l...), reads, nil), func(m []api.Cell) (int, []int64, []api.Change) {
		var out []int64
		for _, k := range reads {
			v, is := value(m, k)
			flag := int64(0)
			if is {
				flag = 1
			}
			out = append(out, v, flag)
		}
		return 0, out, nil
	}}
}

// clears erases some keys, and writes a number to the first of them again, if it may.
func clears(writes []api.Key, n int64, may bool) deed {
	l := []api.Instr{argument(0, 0)}
	var put []api.Change
	for i, k := range writes {
		l = append(l, erase(int64(i)))
		put = append(put, api.Change{Key: k, Erase: true})
	}
	if may {
		l = append(l, store(0, 0))
		put[0] = api.Change{Key: writes[0], Value: n}
	}
	return deed{given(with(txn(l...), nil, writes), n), func([]api.Cell) (int, []int64, []api.Change) { return 0, nil, put }}
}

// always is a transaction that comes to one end, whatever the cells are.
func always(x api.Txn, end int) deed {
	return deed{x, func([]api.Cell) (int, []int64, []api.Change) { return end, nil, nil }}
}

// drawnDeed is a transaction of any sort.
func drawnDeed(r *rand.Rand) deed {
	n := r.Int63n(5) - 2
	switch r.Intn(11) {
	case 0, 1, 2:
		return sums(drawnKeys(r), drawnKeys(r), n, false)
	case 3, 4:
		return sums(drawnKeys(r), drawnKeys(r), n, true)
	case 5, 6:
		return tells(drawnKeys(r))
	case 7, 8:
		return clears(drawnKeys(r), n, r.Intn(2) == 0)
	case 9:
		end := []int{api.EndZero, api.EndFoot, api.EndOut, api.EndAbort, api.EndAbort + 255}[r.Intn(5)]
		if r.Intn(20) == 0 {
			end = api.EndFuel
		}
		return always(fails(drawnKeys(r)[0], end), end)
	}
	return always(unreadable(a), api.EndCode)
}

// drawnCode is a transaction of any instructions, of which eval.Run tells what they come to.
func drawnCode(r *rand.Rand) deed {
	x := api.Txn{Session: 1, Request: 1, Args: numbers(r.Int63n(9), -1, 1, maxRow), Reads: drawnKeys(r), Writes: drawnKeys(r)}
	reads, writes := int64(len(x.Reads)), int64(len(x.Writes))
	var l []api.Instr
	for range 1 + r.Intn(12) {
		p, q := r.Intn(4), r.Intn(4)
		l = append(l, []api.Instr{
			argument(p, r.Int63n(4)), constant(p, r.Int63n(20)-9),
			load(p, r.Int63n(reads)), has(p, r.Int63n(reads)),
			store(p, r.Int63n(writes)), store(p, r.Int63n(writes)), erase(r.Int63n(writes)),
			instr(api.InAdd+r.Intn(api.InUshr-api.InAdd), p, q, 0), add(p, q), out(p),
			[]api.Instr{instr(api.InLoadAt, p, q, 0), storeAt(p, q, 1), constant(p, 7), constant(p, 3)}[r.Intn(4)],
		}[r.Intn(11)])
	}
	x.Code = txn(l...).Code
	return deed{x, func(m []api.Cell) (int, []int64, []api.Change) {
		var v []api.Pair
		for _, y := range m {
			if slices.Contains(x.Reads, y.Key) {
				v = append(v, api.Pair{Key: y.Key, Value: y.Value})
			}
		}
		o := eval.Run(x, v, api.MaxFuel)
		return o.End, o.Values, o.Changes
	}}
}

// sorts are the ways of drawing a transaction.
func sorts() map[string]func(r *rand.Rand) deed {
	return map[string]func(r *rand.Rand) deed{"deeds": drawnDeed, "code": drawnCode}
}

// drawnRequest is a request of a few sessions: rather the one that comes next, or the last one again.
func drawnRequest(r *rand.Rand, m *model, x deed) deed {
	who := []int64{1, 2, 3, 4, maxTime, 0, maxTime + 1, -1}[min(r.Intn(16), r.Intn(16))/2]
	i, has := m.row(who)
	last := int64(0)
	if has {
		last = m.rows[i].Request
	}
	what := last + []int64{0, 1, 1, 1, 1, 2, -1, maxTime}[r.Intn(8)]
	x.txn.Session, x.txn.Request = who, what
	if what > maxTime || who < 1 || who > maxTime {
		x.mean = func([]api.Cell) (int, []int64, []api.Change) { panic("it never comes next") }
	}
	return x
}

// drawnEntry is an entry for the machine that the model is; most are batches.
func drawnEntry(r *rand.Rand, m *model, draw func(r *rand.Rand) deed) (int, []deed) {
	kind := api.EnBatch
	if r.Intn(8) == 0 {
		kind = []int{api.EnNone, 2, -1, 1 << 32}[r.Intn(4)]
	}
	var l []deed
	ahead := *m // it goes on by each, so that of one batch several of one session come next
	ahead.cells, ahead.rows = slices.Clone(m.cells), slices.Clone(m.rows)
	for range r.Intn(6) {
		x := drawnRequest(r, &ahead, draw(r))
		if len(l) > 0 && r.Intn(5) == 0 {
			x = l[r.Intn(len(l))]
		}
		ahead.apply(api.EnBatch, []deed{x})
		l = append(l, x)
	}
	return kind, l
}

// drawn is a run of entries, drawn one by one for the machine that there is then; each is shown to do.
func drawn(seed int64, many int, draw func(r *rand.Rand) deed, do func(m *model, kind int, l []deed)) *model {
	r := rand.New(rand.NewSource(seed))
	m := &model{}
	for range many {
		kind, l := drawnEntry(r, m, draw)
		do(m, kind, l)
	}
	return m
}

// P17.1 to P17.3: drawn runs of entries, held against the chapter's words; Get of each key, too.
func TestDrawnRuns(t *testing.T) {
	for name, draw := range sorts() {
		t.Run(name, func(t *testing.T) { heldAgainst(t, draw) })
	}
}

func heldAgainst(t *testing.T, draw func(r *rand.Rand) deed) {
	done, answers := 0, 0
	for seed := range int64(300) {
		s := serial.New()
		m := drawn(seed, 30, draw, func(m *model, kind int, l []deed) {
			got, err := s.Apply(entry(kind, l))
			same(t, err, api.OK)
			sameText(t, got, m.apply(kind, l))
			same(t, look(s), m.look())
			answers += len(got)
			for _, k := range few() {
				v, is := value(m.cells, k)
				x, has := s.Get(k)
				same(t, has, is)
				same(t, x.Value, v)
			}
		})
		done += m.done
		if t.Failed() {
			t.Fatal(seed)
		}
	}
	if done < 5000 || answers < done+500 {
		t.Error(done, answers, "are too few")
	}
}

// P17.1: Step of drawn transactions, held against the chapter's words, and against what a machine with these cells makes of it.
func TestDrawnSteps(t *testing.T) {
	for name, draw := range sorts() {
		t.Run(name, func(t *testing.T) { stepsLikeAMachine(t, draw) })
	}
}

func stepsLikeAMachine(t *testing.T, draw func(r *rand.Rand) deed) {
	ends := map[int]int{}
	for seed := range int64(300) {
		r := rand.New(rand.NewSource(seed))
		s, m := serial.New(), &model{}
		for n := range 30 {
			x := draw(r)
			x.txn.Request = int64(1 + n)
			m.slot = int64(n)
			want, then := m.step(x, 0)
			got, now := serial.Step(x.txn, int64(n), 0, slices.Collect(s.Cells()))
			sameText(t, got, want)
			sameList(t, now, then)
			sameText(t, one(t, s, x.txn), want)
			sameList(t, slices.Collect(s.Cells()), then)
			m.cells = then
			ends[got.End]++
			if t.Failed() {
				t.Fatal(seed, n)
			}
		}
	}
	if ends[api.EndOK] < 2000 || len(ends) < 3 {
		t.Error(ends)
	}
}

// name is a request of a session.
type name struct{ session, request int64 }

// P17.4: in drawn runs each request of a session is done at most once, those of each session in order; asked again it is answered the same.
func TestOnce(t *testing.T) {
	again := 0
	for seed := range int64(300) {
		s := serial.New()
		first := map[name]string{}
		last := map[int64]int64{}
		drawn(seed, 40, drawnDeed, func(m *model, kind int, l []deed) {
			slot := s.Slot()
			m.apply(kind, l)
			got, _ := s.Apply(entry(kind, l))
			for _, x := range got {
				who, text := name{x.Session, x.Request}, fmt.Sprint(x)
				was, has := first[who]
				if !has {
					first[who] = text
					same(t, x.Request, last[x.Session]+1)
					same(t, x.Result.Slot, slot)
					last[x.Session] = x.Request
				} else {
					same(t, text, was)
					same(t, x.Request, last[x.Session])
					again++
				}
			}
		})
		same(t, len(s.Rows()), len(last))
		for _, row := range s.Rows() {
			same(t, row.Request, last[row.Session])
			same(t, fmt.Sprint(api.Answer(row)), first[name{row.Session, row.Request}])
		}
		if t.Failed() {
			t.Fatal(seed)
		}
	}
	if again < 500 {
		t.Error(again, "are asked again, which is too seldom")
	}
}

// P17.5: in drawn runs, what aborts changes no cell; what does not changes none but its Writes, whose cells then have the slot.
func TestAbortedChangesNothing(t *testing.T) {
	aborted := 0
	for seed := range int64(300) {
		r := rand.New(rand.NewSource(seed))
		s := serial.New()
		for n := range 40 {
			x := drawnDeed(r)
			if r.Intn(2) == 0 {
				x = drawnCode(r)
			}
			was := slices.Collect(s.Cells())
			if one(t, s, by(1, int64(1+n), x.txn)).End != api.EndOK {
				aborted++
				sameList(t, slices.Collect(s.Cells()), was)
				continue
			}
			for _, k := range few() {
				v, is := s.Get(k)
				i := slices.IndexFunc(was, func(y api.Cell) bool { return y.Key == k })
				kept := is && i >= 0 && v == was[i] || !is && i < 0
				if !kept && (!slices.Contains(x.txn.Writes, k) || is && v.Slot != int64(n)) {
					t.Error(k, v, is)
				}
			}
		}
		if t.Failed() {
			t.Fatal(seed)
		}
	}
	if aborted < 1000 {
		t.Error(aborted, "abort, which is too seldom")
	}
}

// P17.6: Replay of both lists is the machine of the first one to which the second one comes, wherever the lists are cut.
func TestReplayOfBoth(t *testing.T) {
	for seed := range int64(60) {
		var l []api.Entry
		m := drawn(seed, 20, drawnDeed, func(m *model, kind int, x []deed) {
			l = append(l, entry(kind, x))
			m.apply(kind, x)
		})
		for cut := range len(l) + 1 {
			s := serial.Replay(l[:cut]...)
			same(t, s.Slot(), int64(cut))
			for _, e := range l[cut:] {
				apply(t, s, e)
			}
			same(t, look(s), look(serial.Replay(slices.Concat(l[:cut], l[cut:])...)))
			same(t, look(s), m.look())
		}
		if t.Failed() {
			t.Fatal(seed)
		}
	}
}
