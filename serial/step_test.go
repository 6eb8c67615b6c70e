package serial_test

import (
	"math"
	"slices"
	"testing"

	"trivet/api"
	"trivet/serial"
)

// steps fails the test, unless Step of a transaction, in the slot 9 at the place 2, comes to that end, those values and those cells.
func steps(t *testing.T, x api.Txn, m []api.Cell, end int, values []int64, want []api.Cell) {
	t.Helper()
	for range 3 {
		r, l := serial.Step(x, 9, 2, m)
		sameText(t, r, api.Result{End: end, Values: values, Slot: 9, Place: 2})
		sameList(t, l, want)
	}
}

// P17.1, R4: what a transaction reads of no cells, of cells that lack some of its Reads or all of them, and of cells beside them.
func TestStepReads(t *testing.T) {
	x := with(txn(load(0, 0), has(1, 0), load(2, 1), has(3, 1), out(0), out(1), out(2), out(3)), keys(a, c), nil)
	for _, y := range []struct {
		m      []api.Cell
		values []int64
	}{
		{nil, numbers(0, 0, 0, 0)},
		{cells(), numbers(0, 0, 0, 0)},
		{cells(cell(a, 5, 1)), numbers(5, 1, 0, 0)},
		{cells(cell(a, 0, 1)), numbers(0, 1, 0, 0)},
		{cells(cell(c, -6, 1)), numbers(0, 0, -6, 1)},
		{cells(cell(b, 4, 1), cell(d, 3, 2)), numbers(0, 0, 0, 0)},
		{cells(cell(a, 5, 1), cell(c, 6, 2)), numbers(5, 1, 6, 1)},
		{cells(cell(a, 5, 1), cell(b, 4, 0), cell(c, 6, 2), cell(d, 3, 3)), numbers(5, 1, 6, 1)},
		{cells(cell(key(-1, -6), 8, 8), cell(key(-1, -4), 8, 8), cell(key(1, -10), 8, 8)), numbers(0, 0, 0, 0)},
		{cells(cell(a, minRow, minRow), cell(c, maxRow, maxRow)), numbers(minRow, 1, maxRow, 1)},
	} {
		steps(t, x, y.m, api.EndOK, y.values, y.m)
	}
	steps(t, txn(out(0)), cells(cell(a, 5, 1)), api.EndOK, numbers(0), cells(cell(a, 5, 1)))
	steps(t, txn(), nil, api.EndOK, nil, nil)
}

// P17.1: what is read is what the Reads have, not what the Writes have, and not what a cell of the same row in another table has.
func TestStepReadsItsReadsAlone(t *testing.T) {
	x := with(txn(instr(api.InLoadAt, 0, 1, 1), out(0)), keys(key(0, 0)), keys(key(1, 0)))
	steps(t, x, cells(cell(key(1, 0), 5, 1)), api.EndFoot, nil, cells(cell(key(1, 0), 5, 1)))
	y := with(txn(load(0, 0), out(0)), keys(key(1, 2)), nil)
	m := cells(cell(key(0, 2), 5, 1), cell(key(2, 1), 6, 1), cell(key(2, 2), 7, 1))
	steps(t, y, m, api.EndOK, numbers(0), m)
}

// P17.1: what each change makes of the key's cell, whether it is there or not, and of its slot, also where the value is the same.
func TestStepChanges(t *testing.T) {
	m := cells(cell(a, 1, 3), cell(c, 2, 4))
	for _, x := range []struct {
		txn  api.Txn
		want []api.Cell
	}{
		{puts(b, 5), cells(cell(a, 1, 3), cell(b, 5, 9), cell(c, 2, 4))},
		{puts(b, 0), cells(cell(a, 1, 3), cell(b, 0, 9), cell(c, 2, 4))},
		{puts(key(minTable, minRow), 5), cells(cell(key(minTable, minRow), 5, 9), cell(a, 1, 3), cell(c, 2, 4))},
		{puts(key(maxTable, maxRow), 5), cells(cell(a, 1, 3), cell(c, 2, 4), cell(key(maxTable, maxRow), 5, 9))},
		{puts(a, 5), cells(cell(a, 5, 9), cell(c, 2, 4))},
		{puts(a, 1), cells(cell(a, 1, 9), cell(c, 2, 4))},
		{puts(c, 0), cells(cell(a, 1, 3), cell(c, 0, 9))},
		{erases(a), cells(cell(c, 2, 4))},
		{erases(c), cells(cell(a, 1, 3))},
		{erases(b), m},
		{with(txn(erase(0), erase(1)), nil, keys(a, c)), nil},
		{with(txn(store(0, 0), erase(0)), nil, keys(a)), cells(cell(c, 2, 4))},
		{with(txn(erase(0), store(0, 0)), nil, keys(a)), cells(cell(a, 0, 9), cell(c, 2, 4))},
		{with(txn(store(0, 0), erase(0)), nil, keys(b)), m},
		{with(txn(constant(0, 8), store(0, 0), store(0, 1), erase(2), store(0, 3)), nil, keys(a, b, c, d)), cells(cell(a, 8, 9), cell(b, 8, 9), cell(d, 8, 9))},
		{with(txn(constant(0, 8)), nil, keys(a, b, c, d)), m},
	} {
		steps(t, x.txn, m, api.EndOK, nil, x.want)
		steps(t, x.txn, x.want, api.EndOK, nil, x.want)
	}
	steps(t, puts(a, 5), nil, api.EndOK, nil, cells(cell(a, 5, 9)))
	steps(t, erases(a), nil, api.EndOK, nil, nil)
	steps(t, adds(a, 5), m, api.EndOK, numbers(6), cells(cell(a, 6, 9), cell(c, 2, 4)))
}

// P17.1, P17.5: each way in which a transaction aborts: it answers nothing, and no cell changes, whatever it has done ahead of that.
func TestStepAborts(t *testing.T) {
	for _, m := range [][]api.Cell{nil, cells(cell(a, 1, 3)), cells(cell(a, 77, 3), cell(b, 2, 4)), cells(cell(b, 2, 4))} {
		for _, end := range []int{api.EndFuel, api.EndZero, api.EndFoot, api.EndOut, api.EndAbort, api.EndAbort + 1, api.EndAbort + 255} {
			steps(t, fails(a, end), m, end, nil, m)
		}
		steps(t, with(txn(erase(0), abort(0)), nil, keys(a)), m, api.EndAbort, nil, m)
		for _, do := range []func(x *api.Txn){
			func(x *api.Txn) { x.Code = []byte{99} },
			func(x *api.Txn) { x.Code = []byte{api.InStore, 0} },
			func(x *api.Txn) { x.Code = make([]byte, api.MaxCode+1) },
			func(x *api.Txn) { x.Session = 0 },
			func(x *api.Txn) { x.Session = maxTime + 1 },
			func(x *api.Txn) { x.Request = -1 },
			func(x *api.Txn) { x.Request = maxTime + 1 },
			func(x *api.Txn) { x.Args = nil },
			func(x *api.Txn) { x.Args = make([]int64, api.MaxArgs+1) },
			func(x *api.Txn) { x.Writes = nil },
			func(x *api.Txn) { x.Writes = keys(b, a) },
			func(x *api.Txn) { x.Reads = keys(a, a) },
			func(x *api.Txn) { x.Reads = make([]api.Key, 10000) },
		} {
			x := puts(a, 5)
			do(&x)
			steps(t, x, m, api.EndCode, nil, m)
		}
	}
}

// P17.1: a run may take MaxFuel instructions, and no more.
func TestStepFuel(t *testing.T) {
	rounds := func(n int64) api.Txn { // 4 instructions, 3 of each round, 1
		return given(with(txn(argument(0, 0), constant(1, 1), constant(2, 5), store(2, 0),
			add(3, 1), instr(api.InSub, 0, 1, 0), instr(api.InJumpIf, 0, 0, 14), out(3)), nil, keys(a)), n)
	}
	steps(t, rounds(1363), nil, api.EndOK, numbers(1363), cells(cell(a, 5, 9))) // 4 + 4089 + 1
	steps(t, rounds(1364), nil, api.EndFuel, nil, nil)
	full := func(more ...api.Instr) api.Txn { // 5 + 3 * 1363 = 4094, and what stands behind
		x := rounds(1363)
		y := txn(append([]api.Instr{argument(0, 0), constant(1, 1), constant(2, 5), store(2, 0),
			add(3, 1), instr(api.InSub, 0, 1, 0), instr(api.InJumpIf, 0, 0, 14), out(3)}, more...)...)
		x.Code = y.Code
		return x
	}
	steps(t, full(out(0), out(1)), nil, api.EndOK, numbers(1363, 0, 1), cells(cell(a, 5, 9)))
	steps(t, full(out(0), out(1), out(2)), nil, api.EndFuel, nil, nil)
	steps(t, full(out(0), out(1), api.Instr{}), nil, api.EndFuel, nil, nil)
}

// P17.1: Slot and Place are those that are asked for, whatever they are, in the result and in the cells.
func TestStepSlotAndPlace(t *testing.T) {
	for _, slot := range numbers(minRow, -1, 0, 1, maxTime, maxTime+1, maxRow) {
		for _, place := range []int{math.MinInt, -1, 0, 1, 16, math.MaxInt} {
			r, l := serial.Step(adds(a, 5), slot, place, cells(cell(a, 1, 3), cell(b, 2, 4)))
			sameText(t, r, api.Result{Values: numbers(6), Slot: slot, Place: place})
			sameList(t, l, cells(cell(a, 6, slot), cell(b, 2, 4)))
			r, l = serial.Step(unreadable(a), slot, place, cells(cell(a, 1, 3)))
			sameText(t, r, api.Result{End: api.EndCode, Slot: slot, Place: place})
			sameList(t, l, cells(cell(a, 1, 3)))
			r, l = serial.Step(fails(a, 142), slot, place, cells(cell(a, 1, 3)))
			sameText(t, r, api.Result{End: 142, Slot: slot, Place: place})
			sameList(t, l, cells(cell(a, 1, 3)))
		}
	}
}

// P17.1: cells that do not rise, or have a key twice, are answered as they came; the result is that of a run over the map that they are.
func TestStepOfCellsThatDoNotRise(t *testing.T) {
	for _, m := range [][]api.Cell{
		cells(cell(b, 2, 4), cell(a, 1, 3)),
		cells(cell(a, 1, 3), cell(c, 2, 4), cell(b, 5, 5)),
		cells(cell(a, 1, 3), cell(a, 1, 3)),
		cells(cell(a, 7, 3), cell(a, 1, 4)),
		cells(cell(a, 7, 3), cell(b, 7, 3), cell(a, 1, 4)),
		cells(cell(c, 1, 3), cell(d, 7, 3), cell(d, 8, 4), cell(a, 1, 4)),
		cells(cell(key(0, 1), 1, 1), cell(key(0, 0), 1, 1), cell(a, 1, 1)),
		cells(cell(key(1, 0), 1, 1), cell(key(0, 1), 1, 1), cell(a, 1, 1)),
	} {
		has := int64(0)
		if slices.ContainsFunc(m, func(x api.Cell) bool { return x.Key == a }) {
			has = 1
		}
		steps(t, adds(a, 5), m, api.EndOK, numbers(5+has), m)
		steps(t, puts(b, 5), m, api.EndOK, nil, m)
		steps(t, erases(a), m, api.EndOK, nil, m)
		steps(t, asks(a), m, api.EndOK, numbers(has, has), m)
		steps(t, fails(a, 100), m, 100, nil, m)
		steps(t, unreadable(a), m, api.EndCode, nil, m)
	}
}

// rising is keys at all edges, in their order.
func rising() []api.Key {
	var l []api.Key
	for _, table := range []int32{minTable, -256, -1, 0, 1, 255, maxTable} {
		for _, row := range numbers(minRow, math.MinInt32, -1, 0, 1, 1<<32, maxRow) {
			l = append(l, key(table, row))
		}
	}
	return l
}

// P17.1: the cells rise by Table, then Row, wherever a key comes in, or leaves.
func TestStepOfEdges(t *testing.T) {
	var m []api.Cell
	for i, k := range rising() {
		m = append(m, cell(k, int64(i), 1))
	}
	for i, k := range rising() {
		without := slices.Delete(slices.Clone(m), i, i+1)
		steps(t, erases(k), m, api.EndOK, nil, without)
		steps(t, erases(k), without, api.EndOK, nil, without)
		other := slices.Clone(m)
		other[i] = cell(k, -5, 9)
		steps(t, puts(k, -5), m, api.EndOK, nil, other)
		steps(t, puts(k, -5), without, api.EndOK, nil, other)
		steps(t, asks(k), m, api.EndOK, numbers(int64(i), 1), m)
		steps(t, asks(k), without, api.EndOK, numbers(0, 0), without)
	}
}

// P17.1: sixteen keys of each side, each of them changed.
func TestStepOfManyKeys(t *testing.T) {
	var k []api.Key
	var l []api.Instr
	var m, want []api.Cell
	for i := range api.MaxKeys {
		k = append(k, key(int32(i/4), int64(i)))
		l = append(l, load(0, int64(i)), add(1, 0), store(1, int64(i)))
		m = append(m, cell(k[i], 1<<i, 5))
		want = append(want, cell(k[i], 2<<i-1, 9))
	}
	x := with(txn(append(l, out(1))...), k, k)
	steps(t, x, m, api.EndOK, numbers(1<<16-1), want)
}
