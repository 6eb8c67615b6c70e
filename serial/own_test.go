package serial_test

import (
	"math"
	"math/rand"
	"runtime"
	"slices"
	"testing"
	"time"

	"trivet/api"
	"trivet/serial"
)

// spoil writes over a list, as far as its memory goes.
func spoil[T any](l []T, x T) {
	l = l[:cap(l)]
	for i := range l {
		l[i] = x
	}
}

var (
	oddKey  = key(99, 99)
	oddCell = cell(oddKey, 99, 99)
	oddTxn  = by(99, 99, puts(oddKey, 99))
)

// roomy is a list with room behind its end, where something stands that is nobody's to see.
func roomy[T any](l []T, x T) []T {
	l = slices.Grow(slices.Clone(l), 4)
	spoil(l[len(l):], x)
	return l
}

// roomyTxn is a transaction whose lists are all roomy.
func roomyTxn(x api.Txn) api.Txn {
	x.Code, x.Args = roomy(x.Code, 99), roomy(x.Args, 99)
	x.Reads, x.Writes = roomy(x.Reads, oddKey), roomy(x.Writes, oddKey)
	return x
}

// spoilTxn writes over all lists of a transaction.
func spoilTxn(x api.Txn) {
	spoil(x.Code, 99)
	spoil(x.Args, 99)
	spoil(x.Reads, oddKey)
	spoil(x.Writes, oddKey)
}

// whole is a transaction's lists with what stands behind their ends.
func whole(x api.Txn) api.Txn {
	x.Code, x.Args = slices.Clone(x.Code[:cap(x.Code)]), slices.Clone(x.Args[:cap(x.Args)])
	x.Reads, x.Writes = slices.Clone(x.Reads[:cap(x.Reads)]), slices.Clone(x.Writes[:cap(x.Writes)])
	return x
}

// R3: entries stay as they were, also behind their lists' ends, and are not kept: what is done to them is not seen.
func TestEntriesStay(t *testing.T) {
	for seed := range int64(100) {
		s := serial.New()
		m := drawn(seed, 20, drawnDeed, func(m *model, kind int, l []deed) {
			e := entry(kind, l)
			var was []api.Txn
			for i, x := range e.Txns {
				e.Txns[i] = roomyTxn(x)
				was = append(was, whole(e.Txns[i]))
			}
			e.Txns = roomy(e.Txns, oddTxn)
			got, err := s.Apply(e)
			same(t, err, api.OK)
			for i := range was {
				sameText(t, whole(e.Txns[i]), was[i])
			}
			for _, x := range e.Txns[len(was):cap(e.Txns)] {
				sameText(t, x, oddTxn)
			}
			for _, x := range e.Txns {
				spoilTxn(x)
			}
			spoil(e.Txns, oddTxn)
			sameText(t, got, m.apply(kind, l))
			same(t, look(s), m.look())
		})
		same(t, look(s), m.look())
		if t.Failed() {
			t.Fatal(seed)
		}
	}
}

// R3: what is handed to Replay stays as it was, too.
func TestReplayedStay(t *testing.T) {
	l := roomy([]api.Entry{batch(roomyTxn(adds(a, 1)), roomyTxn(by(2, 1, adds(a, 2)))), {}, batch(roomyTxn(by(1, 2, asks(a))))}, batch(oddTxn))
	x, y := whole(l[0].Txns[0]), whole(l[2].Txns[0])
	s := serial.Replay(l...)
	sameText(t, whole(l[0].Txns[0]), x)
	sameText(t, whole(l[2].Txns[0]), y)
	sameText(t, l[3:cap(l)], slices.Repeat([]api.Entry{batch(oddTxn)}, cap(l)-3))
	was := look(s)
	spoilTxn(l[0].Txns[0])
	spoilTxn(l[2].Txns[0])
	spoil(l, batch(oddTxn))
	same(t, look(s), was)
	sameText(t, one(t, s, by(1, 3, asks(a))), api.Result{Values: numbers(3, 1), Slot: 3})
}

// R3: what is handed to Step stays as it was, and what it answers is nobody else's, whether there are changes or none, and whether the cells rise or not.
func TestStepsOwn(t *testing.T) {
	for _, x := range []api.Txn{adds(a, 1), puts(b, 5), erases(a), erases(c), asks(a), fails(a, 100), unreadable(a), txn()} {
		for _, m := range [][]api.Cell{nil, cells(cell(a, 1, 1), cell(b, 2, 2)), cells(cell(b, 2, 2), cell(a, 1, 1)), cells(cell(a, 1, 1), cell(a, 1, 1))} {
			x, m := roomyTxn(x), roomy(m, oddCell)
			txnWas, was := whole(x), slices.Clone(m[:cap(m)])
			r, l := serial.Step(x, 5, 6, m)
			r2, l2 := serial.Step(x, 5, 6, m)
			sameText(t, r2, r)
			sameList(t, l2, l)
			values, want := slices.Clone(r.Values), slices.Clone(l)
			spoil(r2.Values, 99)
			spoil(l2, oddCell)
			sameText(t, whole(x), txnWas)
			sameList(t, m[:cap(m)], was)
			spoilTxn(x)
			spoil(m, oddCell)
			sameList(t, r.Values, values)
			sameList(t, l, want)
		}
	}
}

// tellers are the ways in which a machine hands out what the session 1's last request answered.
func tellers() map[string]func(s *serial.Serial) [][]int64 {
	ask := by(1, 2, asks(a))
	return map[string]func(s *serial.Serial) [][]int64{
		"answers": func(s *serial.Serial) [][]int64 {
			l, _ := s.Apply(batch(ask, ask))
			return [][]int64{l[0].Result.Values, l[1].Result.Values}
		},
		"rows":            func(s *serial.Serial) [][]int64 { return [][]int64{s.Rows()[0].Result.Values} },
		"a clone's rows":  func(s *serial.Serial) [][]int64 { return [][]int64{s.Clone().Rows()[0].Result.Values} },
		"a clone's again": func(s *serial.Serial) [][]int64 { return tellAgain(s.Clone(), ask) },
		"again":           func(s *serial.Serial) [][]int64 { return tellAgain(s, ask) },
	}
}

func tellAgain(s *serial.Serial, ask api.Txn) [][]int64 {
	l, _ := s.Apply(batch(ask))
	return [][]int64{l[0].Result.Values}
}

// R3: a result's Values are nobody else's: of an answer when it was done, of one when it is asked again, of a row, of a clone: what is done to one of them is seen in no other one, and not by the machine.
func TestValuesAreNew(t *testing.T) {
	want := numbers(5, 1)
	for first, x := range tellers() {
		for second, y := range tellers() {
			s := serial.New()
			one(t, s, puts(a, 5))
			made := one(t, s, by(1, 2, asks(a)))
			told := append(x(s), y(s)...)
			told = append(told, made.Values)
			for i := range told {
				for j, l := range told {
					if j >= i && !slices.Equal(l, want) {
						t.Error(first, second, i, j, l)
					}
				}
				spoil(told[i], 99)
				_ = append(told[i], 98)
			}
			sameList(t, s.Rows()[0].Result.Values, want)
			sameList(t, tellAgain(s, by(1, 2, asks(a)))[0], want)
		}
	}
}

// R3: lists of answers and rows are nobody else's.
func TestListsAreNew(t *testing.T) {
	s := some(t)
	was := look(s)
	rows, again := s.Rows(), s.Rows()
	spoil(rows, api.Row{Session: 99})
	_ = append(rows[:1], api.Row{Session: 98})
	sameText(t, s.Rows(), again)
	same(t, look(s), was)
	x := batch(by(1, 4, asks(a)), by(2, 2, asks(a)))
	l, m := apply(t, s, x), apply(t, s, x)
	sameText(t, l, m)
	spoil(l, api.Answer{Session: 99})
	sameText(t, apply(t, s, x), m)
	sameText(t, s.Rows(), again)
	for range s.Cells() {
		got := slices.Collect(s.Cells())
		spoil(got, oddCell)
	}
	same(t, all(s), all(some(t)))
}

// R3: two machines have nothing of each other.
func TestMadeApart(t *testing.T) {
	s, other := some(t), some(t)
	was := look(s)
	one(t, other, by(1, 5, erases(a)))
	one(t, other, by(7, 1, puts(a, 1)))
	same(t, look(s), was)
	same(t, look(serial.New()), "0 [] []")
}

// P17.2, R2, R5: a machine that no call made, nil or a zero struct, answers ErrMade, or nothing, and does nothing, whatever it is asked.
func TestMachinesThatNoCallMade(t *testing.T) {
	var nobody *serial.Serial
	zero := &serial.Serial{}
	for _, s := range []*serial.Serial{nobody, zero} {
		for range 2 {
			for _, e := range []api.Entry{{}, {Kind: 2}, batch(), batch(puts(a, 1)), batch(unreadable(a), puts(a, 1))} {
				l, err := s.Apply(e)
				same(t, err, api.ErrMade)
				same(t, l == nil, true)
			}
			same(t, s.Slot(), 0)
			for _, k := range rising() {
				x, is := s.Get(k)
				same(t, x, api.Cell{})
				same(t, is, false)
			}
			told := s.Cells()
			sameList(t, slices.Collect(told), nil)
			sameList(t, slices.Collect(told), nil)
			same(t, len(s.Rows()), 0)
			same(t, s.Clone() == nil, true)
		}
	}
}

// R6: the same calls answer the same, whatever ran between, and whatever the order of a map is.
func TestSameAgain(t *testing.T) {
	run := func(seed int64) []string {
		s := serial.New()
		var out []string
		drawn(seed, 40, drawnDeed, func(m *model, kind int, l []deed) {
			m.apply(kind, l)
			s.Apply(entry(kind, l))
			out = append(out, look(s))
		})
		return out
	}
	want := run(1)
	for seed := range int64(30) {
		run(seed)
		sameList(t, run(1), want)
	}
}

// R1: no transaction and no entry, whatever it is, lets a call panic.
func TestAnyTransaction(t *testing.T) {
	for seed := range int64(5000) {
		r := rand.New(rand.NewSource(seed))
		anyKeys := func() []api.Key {
			var l []api.Key
			for range r.Intn(20) {
				l = append(l, rising()[r.Intn(49)])
			}
			return l
		}
		x := api.Txn{Session: r.Int63n(5) - 1, Request: r.Int63n(4) - 1, Code: make([]byte, r.Intn(30)), Args: make([]int64, r.Intn(10)), Reads: anyKeys(), Writes: anyKeys()}
		for i := range x.Code {
			x.Code[i] = byte(r.Intn(30))
		}
		var m []api.Cell
		for _, k := range anyKeys() {
			m = append(m, cell(k, r.Int63(), r.Int63()))
		}
		got, _ := serial.Step(x, int64(r.Uint64()), int(r.Uint64()), m)
		same(t, got.End == api.EndOK || len(got.Values) == 0, true)
		_, err := serial.New().Apply(api.Entry{Kind: r.Intn(3) - 1, Txns: []api.Txn{x, x}})
		same(t, err, api.OK)
	}
}

// span is how long the quickest of some calls takes, each on what was made for it.
func span(make func() func()) time.Duration {
	least := time.Hour
	for range 4 {
		do := make()
		was := time.Now()
		do()
		least = min(least, time.Since(was))
	}
	return least
}

// grows fails the test, unless a call on 16 times as much takes well below 16 times 16 times as long: in one try of some, for the machine may be busy with something else.
func grows(t *testing.T, name string, n int, of func(n int) func()) {
	t.Helper()
	var x, y time.Duration
	for range 5 {
		x = span(func() func() { return of(n) })
		y = span(func() func() { return of(16 * n) })
		if y < 100*max(x, time.Microsecond) {
			return
		}
	}
	t.Error(name, x, y)
}

// sixteen is sixteen keys, rising, from that row on.
func sixteen(i int) []api.Key {
	var l []api.Key
	for j := range api.MaxKeys {
		l = append(l, key(0, int64(16*i+j)))
	}
	return l
}

// fills writes to sixteen keys.
func fills(i int) api.Txn {
	var l []api.Instr
	for j := range int64(api.MaxKeys) {
		l = append(l, store(0, j))
	}
	return with(txn(l...), nil, sixteen(i))
}

// filled is a machine with 16 n cells.
func filled(n int) *serial.Serial {
	s := serial.New()
	var l []api.Txn
	for i := range n {
		l = append(l, by(1, int64(1+i), fills(i)))
	}
	s.Apply(batch(l...))
	return s
}

// requests is n transactions of the session 2, in order.
func requests(n int, x api.Txn) []api.Txn {
	var l []api.Txn
	for i := range n {
		l = append(l, by(2, int64(1+i), x))
	}
	return l
}

// THE BOUND: each call takes no more than near the length of what it is handed, of what the machine holds, and of what it answers.
func TestSpans(t *testing.T) {
	for name, do := range map[string]func(s *serial.Serial){
		"Cells": func(s *serial.Serial) { s.Cells() },
		"Clone": func(s *serial.Serial) { s.Clone() },
		"Rows":  func(s *serial.Serial) { s.Rows() },
		"Get":   func(s *serial.Serial) { s.Get(a) },
		"Apply": func(s *serial.Serial) { s.Apply(batch(by(2, 1, adds(a, 1)))) },
	} {
		grows(t, name+" of many cells", 1<<6, func(n int) func() {
			s := filled(n)
			return func() { do(s) }
		})
	}
	for name, x := range map[string]api.Txn{"done": adds(a, 1), "aborted": fails(a, 100), "unreadable": unreadable(a)} {
		grows(t, "Apply of many to many cells, "+name, 1<<7, func(n int) func() {
			s, e := filled(n), batch(requests(n, x)...)
			return func() { s.Apply(e) }
		})
		grows(t, "Replay of many, "+name, 1<<7, func(n int) func() {
			var l []api.Entry
			for _, y := range requests(n, x) {
				l = append(l, batch(y))
			}
			return func() { serial.Replay(l...) }
		})
		grows(t, "Apply of one again and again, "+name, 1<<8, func(n int) func() {
			e := batch(slices.Repeat([]api.Txn{by(2, 1, x)}, n)...)
			s := filled(n)
			return func() { s.Apply(e) }
		})
		grows(t, "Step of many cells, "+name, 1<<7, func(n int) func() {
			m := slices.Collect(filled(n).Cells())
			return func() { serial.Step(x, 1, 1, m) }
		})
	}
	grows(t, "Apply of many of no session", 1<<8, func(n int) func() {
		e := batch(slices.Repeat([]api.Txn{by(0, 1, adds(a, 1))}, n)...)
		s := filled(n)
		return func() { s.Apply(e) }
	})
	grows(t, "Step of many Reads", 1<<11, func(n int) func() {
		x := with(txn(), make([]api.Key, n), make([]api.Key, n))
		m := slices.Repeat(cells(cell(a, 1, 1)), n)
		return func() { serial.Step(x, 1, 1, m) }
	})
}

// THE BOUND: a batch takes no time by what the machine holds beside what its transactions name.
func TestManyCellsBesideABatch(t *testing.T) {
	few, many := filled(1), filled(1<<10)
	l := batch(requests(1<<8, adds(a, 1))...)
	var x, y time.Duration
	for range 5 {
		x = span(func() func() { s := few.Clone(); return func() { s.Apply(l) } })
		y = span(func() func() { s := many.Clone(); return func() { s.Apply(l) } })
		if y < 10*x {
			return
		}
	}
	t.Error(x, y)
}

// heap is how many bytes there are that somebody holds.
func heap() int64 {
	runtime.GC()
	var m runtime.MemStats
	runtime.ReadMemStats(&m)
	return int64(m.HeapAlloc)
}

// THE BOUND: of requests that are done and of cells that are gone nothing is kept, however many there were.
func TestNothingIsKept(t *testing.T) {
	s := serial.New()
	was := heap()
	for i := range int64(1 << 14) {
		k := key(0, i)
		s.Apply(batch(by(1, 1+2*i, puts(k, 5)), by(1, 2+2*i, erases(k)), by(math.MaxInt64-i, 1, puts(k, 5))))
	}
	if more := heap() - was; more > 1<<18 {
		t.Error(more, "bytes are kept")
	}
	same(t, all(s), "[] [{Session:1 Request:32768 Result:{End:0 Values:[] Slot:16383 Place:1}}]")
}
