package serial_test

import (
	"fmt"
	"math"
	"slices"
	"testing"

	"trivet/api"
	"trivet/code"
	"trivet/serial"
)

const (
	minTable, maxTable = math.MinInt32, math.MaxInt32
	minRow, maxRow     = math.MinInt64, math.MaxInt64
	maxTime            = 1 << 40
	maxSessions        = 64
)

func same[T comparable](t *testing.T, got, want T) {
	t.Helper()
	if got != want {
		t.Error(got, "not", want)
	}
}

func sameList[T comparable](t *testing.T, got, want []T) {
	t.Helper()
	if !slices.Equal(got, want) {
		t.Error(got, "not", want)
	}
}

// sameText fails the test, unless two things are written alike, field by field; empty and nil lists are.
func sameText(t *testing.T, got, want any) {
	t.Helper()
	if x, y := fmt.Sprintf("%+v", got), fmt.Sprintf("%+v", want); x != y {
		t.Error(x, "not", y)
	}
}

func key(table int32, row int64) api.Key { return api.Key{Table: table, Row: row} }

func keys(l ...api.Key) []api.Key { return l }

func numbers(l ...int64) []int64 { return l }

func cell(k api.Key, v, slot int64) api.Cell { return api.Cell{Key: k, Value: v, Slot: slot} }

func cells(l ...api.Cell) []api.Cell { return l }

// a to d are keys, rising, one of them below 0 in all it has.
var a, b, c, d = key(-1, -5), key(0, 7), key(1, -9), key(1, 3)

func instr(op, a, b int, imm int64) api.Instr { return api.Instr{Op: op, A: a, B: b, Imm: imm} }

func constant(a int, n int64) api.Instr { return instr(api.InConst, a, 0, n) }
func argument(a int, i int64) api.Instr { return instr(api.InArg, a, 0, i) }
func load(a int, i int64) api.Instr     { return instr(api.InLoad, a, 0, i) }
func has(a int, i int64) api.Instr      { return instr(api.InHas, a, 0, i) }
func store(a int, i int64) api.Instr    { return instr(api.InStore, a, 0, i) }
func erase(i int64) api.Instr           { return instr(api.InErase, 0, 0, i) }
func add(a, b int) api.Instr            { return instr(api.InAdd, a, b, 0) }
func out(a int) api.Instr               { return instr(api.InOut, a, 0, 0) }
func abort(n int64) api.Instr           { return instr(api.InAbort, 0, 0, n) }
func jump(at int64) api.Instr           { return instr(api.InJump, 0, 0, at) }
func storeAt(a, b int, table int64) api.Instr {
	return instr(api.InStoreAt, a, b, table)
}

// txn is the first request of the session 1, of instructions, with keys and arguments still to be given.
func txn(l ...api.Instr) api.Txn {
	b, e := code.Encode(l...)
	if e != api.OK {
		panic(e)
	}
	return api.Txn{Session: 1, Request: 1, Code: b}
}

// with is a transaction that reads and writes those keys, too.
func with(x api.Txn, reads, writes []api.Key) api.Txn {
	x.Reads, x.Writes = reads, writes
	return x
}

// given is a transaction with those arguments.
func given(x api.Txn, args ...int64) api.Txn {
	x.Args = args
	return x
}

// by is a transaction as that request of that session.
func by(session, request int64, x api.Txn) api.Txn {
	x.Session, x.Request = session, request
	return x
}

// adds adds a number to what a key has, and answers the sum.
func adds(k api.Key, n int64) api.Txn {
	return given(with(txn(load(0, 0), argument(1, 0), add(0, 1), store(0, 0), out(0)), keys(k), keys(k)), n)
}

// puts writes a number to a key, and answers nothing.
func puts(k api.Key, n int64) api.Txn {
	return given(with(txn(argument(0, 0), store(0, 0)), nil, keys(k)), n)
}

// erases lets a key go.
func erases(k api.Key) api.Txn { return with(txn(erase(0)), nil, keys(k)) }

// asks answers what a key has, and whether it has anything.
func asks(k api.Key) api.Txn {
	return with(txn(load(0, 0), has(1, 0), out(0), out(1)), keys(k), nil)
}

// fails is a transaction that writes, and then aborts with that end.
func fails(k api.Key, end int) api.Txn {
	l := []api.Instr{constant(1, 77), store(1, 0)}
	switch end {
	case api.EndFuel:
		l = append(l, jump(0))
	case api.EndZero:
		l = append(l, out(1), instr(api.InDiv, 0, 0, 0))
	case api.EndFoot:
		l = append(l, out(1), storeAt(1, 1, 99))
	case api.EndOut:
		l = append(l, slices.Repeat([]api.Instr{out(1)}, api.MaxOut+1)...)
	default:
		l = append(l, out(1), abort(int64(end-api.EndAbort)))
	}
	return with(txn(l...), keys(k), keys(k))
}

// unreadable is a transaction whose code cannot be read.
func unreadable(k api.Key) api.Txn {
	return api.Txn{Session: 1, Request: 1, Code: []byte{99}, Reads: keys(k), Writes: keys(k)}
}

func batch(l ...api.Txn) api.Entry { return api.Entry{Kind: api.EnBatch, Txns: l} }

// apply is what an entry is answered, which may not be refused.
func apply(t *testing.T, s *serial.Serial, e api.Entry) []api.Answer {
	t.Helper()
	slot := s.Slot()
	l, err := s.Apply(e)
	same(t, err, api.OK)
	same(t, s.Slot(), slot+1)
	return l
}

// one is what the only transaction of a batch is answered.
func one(t *testing.T, s *serial.Serial, x api.Txn) api.Result {
	t.Helper()
	l := apply(t, s, batch(x))
	if len(l) != 1 {
		t.Fatal(l)
	}
	same(t, l[0].Session, x.Session)
	same(t, l[0].Request, x.Request)
	return l[0].Result
}

// none fails the test, unless the only transaction of a batch is answered nothing, and changes nothing.
func none(t *testing.T, s *serial.Serial, x api.Txn) {
	t.Helper()
	was := all(s)
	l := apply(t, s, batch(x))
	if len(l) != 0 || all(s) != was {
		t.Error(x.Session, x.Request, l)
	}
}

// all is what a machine has, but its slot, as text.
func all(s *serial.Serial) string {
	return fmt.Sprintf("%+v %+v", slices.Collect(s.Cells()), s.Rows())
}

// look is all that a machine has, as text.
func look(s *serial.Serial) string { return fmt.Sprintf("%d %s", s.Slot(), all(s)) }

// The chapter's examples.
func TestExamples(t *testing.T) {
	x := with(txn(load(0, 0), out(0)), keys(a), nil)
	s := serial.New()
	sameText(t, one(t, s, x), api.Result{Values: numbers(0)})
	sameText(t, apply(t, s, batch(by(1, 2, adds(a, 3)), by(1, 2, adds(a, 3)))), []api.Answer{
		{Session: 1, Request: 2, Result: api.Result{Values: numbers(3), Slot: 1}},
		{Session: 1, Request: 2, Result: api.Result{Values: numbers(3), Slot: 1}},
	})
	sameList(t, slices.Collect(s.Cells()), cells(cell(a, 3, 1)))
}

// P17.3: a new machine has nothing, and its slot is 0.
func TestNew(t *testing.T) {
	s := serial.New()
	same(t, s.Slot(), 0)
	same(t, len(slices.Collect(s.Cells())), 0)
	same(t, len(s.Rows()), 0)
	_, is := s.Get(key(0, 0))
	same(t, is, false)
}
