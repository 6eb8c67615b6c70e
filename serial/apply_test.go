package serial_test

import (
	"math"
	"slices"
	"testing"

	"trivet/api"
	"trivet/serial"
)

// some is a machine in whose slots 0 to 3 stand requests of the sessions 1 and 2.
func some(t *testing.T) *serial.Serial {
	t.Helper()
	s := serial.New()
	apply(t, s, batch(by(1, 1, puts(a, 10)), by(2, 1, adds(b, 20))))
	apply(t, s, batch(by(1, 2, puts(c, 30))))
	apply(t, s, batch(by(2, 2, puts(a, 11)), by(1, 3, erases(c))))
	apply(t, s, batch(by(1, 4, adds(d, 40))))
	sameList(t, slices.Collect(s.Cells()), cells(cell(a, 11, 2), cell(b, 20, 0), cell(d, 40, 3)))
	return s
}

// P17.2, P17.3: an entry of another Kind than EnBatch does nothing, whatever it has, and Slot goes on by each.
func TestKinds(t *testing.T) {
	s := some(t)
	was := all(s)
	for _, kind := range []int{api.EnNone, 2, 3, -1, 1 << 32, 1<<32 + 1, math.MinInt, math.MaxInt} {
		for _, e := range []api.Entry{{}, {From: 3, Number: 7}, batch(by(1, 5, puts(a, 5))), batch(by(1, 4, puts(a, 5)), by(9, 1, puts(a, 5)))} {
			e.Kind = kind
			sameText(t, apply(t, s, e), []api.Answer(nil))
			same(t, all(s), was)
		}
	}
	same(t, s.Slot(), 4+8*4)
	sameText(t, one(t, s, by(1, 5, asks(a))), api.Result{Values: numbers(11, 1), Slot: 36})
}

// P17.2: From and Number of a batch count for nothing.
func TestWhoseBatch(t *testing.T) {
	for _, from := range []int{math.MinInt, -1, 0, 4, 5, math.MaxInt} {
		for _, number := range numbers(minRow, -1, 0, maxTime+1, maxRow) {
			s := some(t)
			e := batch(by(1, 5, adds(a, 1)))
			e.From, e.Number = from, number
			sameText(t, apply(t, s, e), []api.Answer{{Session: 1, Request: 5, Result: api.Result{Values: numbers(12), Slot: 4}}})
		}
	}
}

// P17.2, R4: a batch of none, of one, of many: each has its place, also those that are not done.
func TestPlaces(t *testing.T) {
	s := serial.New()
	same(t, len(apply(t, s, batch())), 0)
	same(t, len(apply(t, s, api.Entry{Kind: api.EnBatch, Txns: []api.Txn{}})), 0)
	sameText(t, apply(t, s, batch(by(5, 1, puts(a, 1)))), []api.Answer{{Session: 5, Request: 1, Result: api.Result{Slot: 2}}})
	sameText(t, apply(t, s, batch(by(5, 9, puts(a, 2)), by(6, 1, adds(a, 3)), by(0, 1, puts(a, 4)), by(5, 2, fails(a, 107)), by(5, 1, puts(a, 5)), by(5, 3, asks(a)))), []api.Answer{
		{Session: 6, Request: 1, Result: api.Result{Values: numbers(4), Slot: 3, Place: 1}},
		{Session: 5, Request: 2, Result: api.Result{End: 107, Slot: 3, Place: 3}},
		{Session: 5, Request: 3, Result: api.Result{Values: numbers(4, 1), Slot: 3, Place: 5}},
	})
	sameText(t, s.Rows(), []api.Row{
		{Session: 5, Request: 3, Result: api.Result{Values: numbers(4, 1), Slot: 3, Place: 5}},
		{Session: 6, Request: 1, Result: api.Result{Values: numbers(4), Slot: 3, Place: 1}},
	})
}

// P17.2: a batch of more than MaxTxns: all are done, one behind the other.
func TestManyOfABatch(t *testing.T) {
	s := serial.New()
	for _, n := range []int{api.MaxTxns, api.MaxTxns + 1, 1000} {
		m := s.Clone()
		var l []api.Txn
		for i := range n {
			l = append(l, by(3, int64(1+i), adds(a, 1)))
		}
		got := apply(t, m, batch(l...))
		same(t, len(got), n)
		for i, x := range got {
			sameText(t, x, api.Answer{Session: 3, Request: int64(1 + i), Result: api.Result{Values: numbers(int64(1 + i)), Place: i}})
		}
		sameList(t, slices.Collect(m.Cells()), cells(cell(a, int64(n), 0)))
	}
}

// P17.2: the second one of a batch reads what the first one wrote or erased, unless that one aborts.
func TestOneBehindTheOther(t *testing.T) {
	for _, x := range []struct {
		first  api.Txn
		values []int64
	}{
		{puts(a, 5), numbers(5, 1)},
		{puts(a, 0), numbers(0, 1)},
		{erases(a), numbers(0, 0)},
		{adds(a, 5), numbers(15, 1)},
		{puts(b, 5), numbers(10, 1)},
		{fails(a, api.EndFuel), numbers(10, 1)},
		{fails(a, api.EndZero), numbers(10, 1)},
		{fails(a, api.EndFoot), numbers(10, 1)},
		{fails(a, api.EndOut), numbers(10, 1)},
		{fails(a, api.EndAbort+7), numbers(10, 1)},
		{unreadable(a), numbers(10, 1)},
	} {
		s := serial.New()
		apply(t, s, batch(puts(a, 10)))
		l := apply(t, s, batch(by(1, 2, x.first), by(2, 1, asks(a)), by(1, 3, asks(a))))
		if len(l) != 3 {
			t.Fatal(l)
		}
		sameList(t, l[1].Result.Values, x.values)
		sameList(t, l[2].Result.Values, x.values)
	}
}

// P17.2, P17.5: each end of a request that comes next is its result and the row's, and what aborts changes no cell.
func TestEnds(t *testing.T) {
	s := some(t)
	was := slices.Collect(s.Cells())
	for i, x := range []struct {
		txn api.Txn
		end int
	}{
		{fails(a, api.EndFuel), api.EndFuel},
		{fails(b, api.EndZero), api.EndZero},
		{fails(c, api.EndFoot), api.EndFoot},
		{fails(d, api.EndOut), api.EndOut},
		{fails(a, api.EndAbort), api.EndAbort},
		{fails(a, api.EndAbort+255), api.EndAbort + 255},
		{unreadable(a), api.EndCode},
		{with(puts(a, 1), nil, nil), api.EndCode},
		{with(puts(a, 1), nil, keys(b, a)), api.EndCode},
	} {
		y := by(2, int64(3+i), x.txn)
		want := api.Result{End: x.end, Slot: int64(4 + i)}
		sameText(t, one(t, s, y), want)
		sameList(t, slices.Collect(s.Cells()), was)
		sameText(t, s.Rows()[1], api.Row{Session: 2, Request: y.Request, Result: want})
	}
	same(t, s.Rows()[0].Request, 4)
}

// P17.2, P17.4: one request twice in a batch, and in other batches: it is done once, and answered the same, whatever else it asks for then.
func TestAskedAgain(t *testing.T) {
	s := serial.New()
	x := adds(a, 5)
	want := api.Answer{Session: 1, Request: 1, Result: api.Result{Values: numbers(5), Place: 1}}
	sameText(t, apply(t, s, batch(by(2, 1, puts(a, 0)), x, x, x)), []api.Answer{{Session: 2, Request: 1}, want, want, want})
	for _, again := range []api.Txn{x, adds(a, 5), adds(a, 6), adds(b, 1), erases(a), asks(a), fails(a, 100), unreadable(a), {Session: 1, Request: 1}} {
		was := all(s)
		sameText(t, apply(t, s, batch(again)), []api.Answer{want})
		same(t, all(s), was)
		sameText(t, apply(t, s, batch(again, by(7, 2, x), again)), []api.Answer{want, want})
		same(t, all(s), was)
	}
	sameList(t, slices.Collect(s.Cells()), cells(cell(a, 5, 0)))
	bad := by(1, 2, fails(a, 103))
	aborted := api.Answer{Session: 1, Request: 2, Result: api.Result{End: 103, Slot: s.Slot()}}
	sameText(t, apply(t, s, batch(bad)), []api.Answer{aborted})
	sameText(t, apply(t, s, batch(by(1, 2, adds(a, 5)), bad)), []api.Answer{aborted, aborted})
	none(t, s, x)
	sameList(t, slices.Collect(s.Cells()), cells(cell(a, 5, 0)))
}

// P17.2, P17.4: a request that neither is the row's nor comes next is not answered, and changes nothing.
func TestRequestsThatDoNotComeNext(t *testing.T) {
	s := some(t)
	for _, request := range numbers(minRow, -maxTime, -1, 0, 2, 3, 4, 5, maxTime-1, maxTime, maxTime+1, maxRow) {
		none(t, s, by(3, request, puts(a, 5))) // of no row: 1 comes next
		if request != 2 && request != 3 {
			none(t, s, by(2, request, puts(a, 5))) // of the row 2: 3 does
		}
	}
	none(t, s, by(2, 1, adds(b, 20)))
	sameText(t, one(t, s, by(2, 2, puts(a, 5))), api.Result{Slot: 2})
	sameText(t, one(t, s, by(2, 3, asks(b))), api.Result{Values: numbers(20, 1), Slot: s.Slot() - 1})
	sameText(t, one(t, s, by(3, 1, asks(b))), api.Result{Values: numbers(20, 1), Slot: s.Slot() - 1})
	none(t, s, by(2, 2, puts(a, 5)))
	none(t, s, by(2, 5, puts(a, 5)))
	same(t, len(s.Rows()), 3)
}

// P17.2: a session without a row may be from 1 to MaxTime.
func TestSessions(t *testing.T) {
	for _, session := range numbers(minRow, -maxTime, -1, 0, maxTime+1, maxTime+2, maxRow) {
		s := some(t)
		none(t, s, by(session, 1, puts(a, 5)))
		none(t, s, by(session, 0, puts(a, 5)))
		none(t, s, by(session, 2, puts(a, 5)))
	}
	for _, session := range numbers(3, 4, 1<<32+1, maxTime-1, maxTime) {
		s := some(t)
		none(t, s, by(session, 2, puts(a, 5)))
		none(t, s, by(session, 0, puts(a, 5)))
		sameText(t, one(t, s, by(session, 1, asks(a))), api.Result{Values: numbers(11, 1), Slot: 6})
		sameText(t, one(t, s, by(session, 2, asks(b))), api.Result{Values: numbers(20, 1), Slot: 7})
		same(t, s.Rows()[2].Session, session)
	}
	s := serial.New()
	sameText(t, one(t, s, by(1, 1, asks(a))), api.Result{Values: numbers(0, 0)})
}

// P17.2: behind MaxSessions rows no other session has a request done; those that have a row go on.
func TestMaxSessions(t *testing.T) {
	s := serial.New()
	session := func(i int) int64 { return int64((i*37)%100 + 1) }
	for i := range maxSessions {
		if i == maxSessions-1 { // there is still one that may come
			m := s.Clone()
			one(t, m, by(maxTime, 1, fails(a, 100)))
			same(t, len(m.Rows()), maxSessions)
			none(t, m, by(session(i), 1, adds(a, 1)))
		}
		same(t, len(s.Rows()), i)
		sameList(t, one(t, s, by(session(i), 1, adds(a, 1))).Values, numbers(int64(1+i)))
	}
	for i := maxSessions; i < 100; i++ {
		none(t, s, by(session(i), 1, adds(a, 1)))
		none(t, s, by(session(i), 2, adds(a, 1)))
	}
	none(t, s, by(maxTime, 1, adds(a, 1)))
	none(t, s, by(0, 1, adds(a, 1)))
	for i := range maxSessions {
		sameText(t, one(t, s, by(session(i), 1, adds(a, 1))), api.Result{Values: numbers(int64(1 + i)), Slot: int64(i)})
		none(t, s, by(session(i), 3, adds(a, 1)))
		sameList(t, one(t, s, by(session(i), 2, adds(a, 1))).Values, numbers(int64(maxSessions+1+i)))
	}
	same(t, len(s.Rows()), maxSessions)
}

// P17.2: within one batch, too, the last row is given once.
func TestMaxSessionsOfABatch(t *testing.T) {
	s := serial.New()
	var l []api.Txn
	for i := range int64(70) {
		l = append(l, by(100-i, 1, adds(a, 1)), by(100-i, 2, adds(b, 1)))
	}
	same(t, len(apply(t, s, batch(l...))), 2*maxSessions)
	sameList(t, slices.Collect(s.Cells()), cells(cell(a, maxSessions, 0), cell(b, maxSessions, 0)))
	same(t, s.Rows()[0].Session, 100-maxSessions+1)
}
