package eval_test

import (
	"math"
	"slices"
	"testing"

	"trivet/api"
	"trivet/code"
	"trivet/eval"
)

const (
	least, greatest = math.MinInt64, math.MaxInt64
	maxTime         = 1 << 40
	maxFuel         = 4096
)

func same[T comparable](t *testing.T, got, want T) {
	t.Helper()
	if got != want {
		t.Error(got, "not", want)
	}
}

func sameList[T comparable](t *testing.T, got, want []T) {
	t.Helper()
	if !slices.Equal(got, want) {
		t.Error(got, "not", want)
	}
}

// isOutcome tells whether two outcomes are the same, without asking eval.Same for it.
func isOutcome(a, b api.Outcome) bool {
	return a.End == b.End && a.Steps == b.Steps && slices.Equal(a.Values, b.Values) && slices.Equal(a.Changes, b.Changes)
}

func sameOutcome(t *testing.T, got, want api.Outcome) {
	t.Helper()
	if !isOutcome(got, want) {
		t.Errorf("%+v, not %+v", got, want)
	}
}

// runs fails the test, unless Run comes to that.
func runs(t *testing.T, x api.Txn, values []api.Pair, fuel int, want api.Outcome) {
	t.Helper()
	if got := eval.Run(x, values, fuel); !isOutcome(got, want) {
		t.Errorf("%+v, of %v, with %d: %+v, not %+v", x, values, fuel, got, want)
	}
}

// ends fails the test, unless Run comes to that end, with nothing answered and nothing changed.
func ends(t *testing.T, x api.Txn, fuel, end, steps int) {
	t.Helper()
	runs(t, x, nil, fuel, api.Outcome{End: end, Steps: steps})
}

func instr(op, a, b int, imm int64) api.Instr { return api.Instr{Op: op, A: a, B: b, Imm: imm} }

func constant(a int, n int64) api.Instr { return instr(api.InConst, a, 0, n) }
func argument(a int, i int64) api.Instr { return instr(api.InArg, a, 0, i) }
func out(a int) api.Instr               { return instr(api.InOut, a, 0, 0) }
func store(a int, i int64) api.Instr    { return instr(api.InStore, a, 0, i) }
func erase(i int64) api.Instr           { return instr(api.InErase, 0, 0, i) }
func load(a int, i int64) api.Instr     { return instr(api.InLoad, a, 0, i) }
func has(a int, i int64) api.Instr      { return instr(api.InHas, a, 0, i) }
func loadAt(a, b int, table int64) api.Instr {
	return instr(api.InLoadAt, a, b, table)
}
func storeAt(a, b int, table int64) api.Instr {
	return instr(api.InStoreAt, a, b, table)
}
func jump(at int64) api.Instr          { return instr(api.InJump, 0, 0, at) }
func jumpIf(a int, at int64) api.Instr { return instr(api.InJumpIf, a, 0, at) }
func abort(n int64) api.Instr          { return instr(api.InAbort, 0, 0, n) }
func move(a, b int) api.Instr          { return instr(api.InMove, a, b, 0) }
func halt() api.Instr                  { return api.Instr{} }

// txn is a transaction of instructions, with keys and arguments still to be given.
func txn(t *testing.T, l ...api.Instr) api.Txn {
	t.Helper()
	b, e := code.Encode(l...)
	same(t, e, api.OK)
	return api.Txn{Session: 1, Request: 1, Code: b}
}

// with is a transaction that reads and writes those keys, too.
func with(x api.Txn, reads, writes []api.Key) api.Txn {
	x.Reads, x.Writes = reads, writes
	return x
}

// given is a transaction with those arguments.
func given(x api.Txn, args ...int64) api.Txn {
	x.Args = args
	return x
}

func key(table int32, row int64) api.Key { return api.Key{Table: table, Row: row} }

func keys(l ...api.Key) []api.Key { return l }

func pair(k api.Key, v int64) api.Pair { return api.Pair{Key: k, Value: v} }

func pairs(l ...api.Pair) []api.Pair { return l }

func put(k api.Key, v int64) api.Change { return api.Change{Key: k, Value: v} }

func gone(k api.Key) api.Change { return api.Change{Key: k, Erase: true} }

func changes(l ...api.Change) []api.Change { return l }

func numbers(l ...int64) []int64 { return l }

// rising is keys at all edges, in their order.
func rising() []api.Key {
	var l []api.Key
	for _, table := range []int32{math.MinInt32, -256, -1, 0, 1, 255, math.MaxInt32} {
		for _, row := range []int64{least, math.MinInt32, -1, 0, 1, 1 << 32, greatest} {
			l = append(l, key(table, row))
		}
	}
	return l
}

// The chapter's numbers.
func TestNumbersOfEnds(t *testing.T) {
	sameList(t, []int{api.EndOK, api.EndCode, api.EndFuel, api.EndZero, api.EndFoot, api.EndOut, api.EndAbort, api.MaxFuel}, []int{0, 1, 2, 3, 4, 5, 100, maxFuel})
}

// The chapter's examples.
func TestExamples(t *testing.T) {
	a := key(1, 2)
	own := with(txn(t, constant(0, 7), store(0, 0), load(1, 0), out(1)), keys(a), keys(a))
	for _, values := range [][]api.Pair{nil, {pair(a, 5)}} {
		runs(t, own, values, maxFuel, api.Outcome{Values: numbers(7), Changes: changes(put(a, 7)), Steps: 4})
	}
	ends(t, txn(t, constant(0, 1), instr(api.InDiv, 0, 1, 0)), maxFuel, api.EndZero, 2)
	for _, fuel := range []int{0, 1, 2, 100, maxFuel} {
		ends(t, txn(t, jump(0)), fuel, api.EndFuel, fuel)
	}
}
