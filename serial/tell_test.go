package serial_test

import (
	"slices"
	"testing"

	"trivet/api"
	"trivet/serial"
)

// P17.3: Get of a key that is there, of one that is not, of one that was deleted, and of one that has come back.
func TestGet(t *testing.T) {
	s := serial.New()
	of := func(k api.Key, want api.Cell, is bool) {
		t.Helper()
		got, has := s.Get(k)
		same(t, got, want)
		same(t, has, is)
	}
	of(a, api.Cell{}, false)
	one(t, s, by(1, 1, puts(a, 5)))
	of(a, cell(a, 5, 0), true)
	of(b, api.Cell{}, false)
	of(key(-1, -4), api.Cell{}, false)
	of(key(0, -5), api.Cell{}, false)
	one(t, s, by(1, 2, puts(a, 5)))
	of(a, cell(a, 5, 1), true)
	one(t, s, by(1, 3, asks(a)))
	of(a, cell(a, 5, 1), true)
	one(t, s, by(1, 4, fails(a, 100)))
	of(a, cell(a, 5, 1), true)
	one(t, s, by(1, 5, erases(a)))
	of(a, api.Cell{}, false)
	one(t, s, by(1, 6, erases(a)))
	of(a, api.Cell{}, false)
	one(t, s, by(1, 7, puts(a, 0)))
	of(a, cell(a, 0, 6), true)
}

// full is a machine that has all keys at the edges, written in another order than theirs.
func full(t *testing.T) *serial.Serial {
	t.Helper()
	s := serial.New()
	of := rising()
	for i := range of {
		one(t, s, by(1, int64(1+i), puts(of[i*20%len(of)], int64(i*20%len(of)))))
	}
	return s
}

// P17.3: Get and Cells with keys at all edges, the least and the greatest Table and Row among them.
func TestEdgesOfKeys(t *testing.T) {
	s := full(t)
	var want []api.Cell
	for i, k := range rising() {
		c, is := s.Get(k)
		same(t, is, true)
		same(t, c.Key, k)
		same(t, c.Value, int64(i))
		same(t, c.Slot*20%int64(len(rising())), int64(i))
		want = append(want, c)
	}
	for range 3 {
		sameList(t, slices.Collect(s.Cells()), want)
	}
	for i, k := range rising() {
		m := s.Clone()
		one(t, m, by(1, int64(len(want)+1), erases(k)))
		_, is := m.Get(k)
		same(t, is, false)
		sameList(t, slices.Collect(m.Cells()), slices.Delete(slices.Clone(want), i, i+1))
	}
}

// P17.3, R3: Cells may be left early, and ranged over again; it tells what was there when it was asked for, whatever has come to the machine since.
func TestCells(t *testing.T) {
	s := full(t)
	want := slices.Collect(s.Cells())
	same(t, len(want), len(rising()))
	told := s.Cells()
	for n := range len(want) + 1 {
		var got []api.Cell
		for c := range told {
			if len(got) == n {
				break
			}
			got = append(got, c)
		}
		sameList(t, got, want[:n])
	}
	one(t, s, by(1, 50, erases(want[0].Key)))
	one(t, s, by(1, 51, puts(want[1].Key, 1000)))
	one(t, s, by(1, 52, puts(key(7, 7), 1000)))
	sameList(t, slices.Collect(told), want)
	sameList(t, slices.Collect(told), want)
	now := slices.Collect(s.Cells())
	same(t, len(now), len(want))
	same(t, now[0].Value, 1000)
	for x := range told { // within one another, and while the machine changes
		one(t, s, by(1, s.Rows()[0].Request+1, erases(x.Key)))
		sameList(t, slices.Collect(told), want)
	}
	sameList(t, slices.Collect(s.Cells()), cells(cell(key(7, 7), 1000, 51)))
}

// P17.3: Rows rise by sessions, in whatever order these have come, and each has the last request that was done, and its result.
func TestRows(t *testing.T) {
	s := serial.New()
	sessions := numbers(maxTime, 1<<32, 2, 1, 1<<32+1, 77, maxTime-1)
	for _, x := range sessions {
		one(t, s, by(x, 1, adds(a, 1)))
	}
	one(t, s, by(77, 2, fails(a, 102)))
	one(t, s, by(2, 2, adds(a, 1)))
	none(t, s, by(1, 3, adds(a, 1)))
	for range 3 {
		sameText(t, s.Rows(), []api.Row{
			{Session: 1, Request: 1, Result: api.Result{Values: numbers(4), Slot: 3}},
			{Session: 2, Request: 2, Result: api.Result{Values: numbers(8), Slot: 8}},
			{Session: 77, Request: 2, Result: api.Result{End: 102, Slot: 7}},
			{Session: 1 << 32, Request: 1, Result: api.Result{Values: numbers(2), Slot: 1}},
			{Session: 1<<32 + 1, Request: 1, Result: api.Result{Values: numbers(5), Slot: 4}},
			{Session: maxTime - 1, Request: 1, Result: api.Result{Values: numbers(7), Slot: 6}},
			{Session: maxTime, Request: 1, Result: api.Result{Values: numbers(1), Slot: 0}},
		})
	}
}

// P17.3: Clone has all of the same, and each goes its own way from there.
func TestClone(t *testing.T) {
	for _, first := range []bool{true, false} {
		s := some(t)
		m := s.Clone()
		was := look(s)
		same(t, look(m), was)
		if !first {
			s, m = m, s
		}
		one(t, m, by(1, 5, puts(a, 5)))
		one(t, m, by(1, 6, erases(b)))
		one(t, m, by(3, 1, puts(c, 5)))
		apply(t, m, api.Entry{})
		same(t, look(s), was)
		same(t, s.Slot(), 4)
		same(t, m.Slot(), 8)
		sameText(t, one(t, s, by(1, 5, adds(b, 1))), api.Result{Values: numbers(21), Slot: 4})
		sameList(t, slices.Collect(s.Cells()), cells(cell(a, 11, 2), cell(b, 21, 4), cell(d, 40, 3)))
		sameList(t, slices.Collect(m.Cells()), cells(cell(a, 5, 4), cell(c, 5, 6), cell(d, 40, 3)))
		same(t, len(s.Rows()), 2)
		same(t, len(m.Rows()), 3)
	}
	m := serial.New().Clone()
	sameText(t, one(t, m, asks(a)), api.Result{Values: numbers(0, 0)})
}

// P17.3: Replay of none, of one, of many, of other Kinds, too.
func TestReplay(t *testing.T) {
	same(t, look(serial.Replay()), look(serial.New()))
	same(t, look(serial.Replay([]api.Entry{}...)), look(serial.New()))
	sameText(t, one(t, serial.Replay(), adds(a, 1)), api.Result{Values: numbers(1)})
	same(t, serial.Replay(api.Entry{}).Slot(), 1)
	same(t, all(serial.Replay(api.Entry{})), all(serial.New()))
	l := []api.Entry{
		batch(by(1, 1, puts(a, 10)), by(2, 1, adds(b, 20))),
		batch(by(1, 2, puts(c, 30))),
		batch(by(2, 2, puts(a, 11)), by(1, 3, erases(c))),
		batch(by(1, 4, adds(d, 40))),
	}
	for range 3 {
		same(t, look(serial.Replay(l...)), look(some(t)))
	}
	s := serial.Replay(l[0])
	sameList(t, slices.Collect(s.Cells()), cells(cell(a, 10, 0), cell(b, 20, 0)))
	l = append(l, api.Entry{Kind: 2, Txns: l[0].Txns}, batch(), batch(by(2, 3, asks(d)), by(2, 3, asks(d))))
	s = serial.Replay(l...)
	same(t, s.Slot(), 7)
	sameText(t, s.Rows()[1], api.Row{Session: 2, Request: 3, Result: api.Result{Values: numbers(40, 1), Slot: 6}})
	x, y := serial.Replay(l...), serial.Replay(l...)
	one(t, x, by(1, 5, erases(a)))
	same(t, look(y), look(s))
}
