package eval_test

import (
	"math"
	"slices"
	"testing"

	"trivet/api"
	"trivet/eval"
)

// fuels are some at all edges.
func fuels() []int {
	return []int{math.MinInt, math.MinInt32, -maxFuel, -2, -1, 0, 1, 2, 3, 9, maxFuel - 1, maxFuel, maxFuel + 1, 1 << 31, 1 << 32, math.MaxInt}
}

// P14.1: what code.Check refuses, for each thing that it asks, with whatever fuel: EndCode, and nothing has run.
func TestRefused(t *testing.T) {
	good := func() api.Txn {
		return given(with(txn(t, argument(0, 0), store(0, 0), out(0), halt()), keys(a, b), keys(a)), 5)
	}
	runs(t, good(), nil, maxFuel, api.Outcome{Values: numbers(5), Changes: changes(put(a, 5)), Steps: 4})
	for i, spoil := range []func(x *api.Txn){
		func(x *api.Txn) { *x = api.Txn{} },
		func(x *api.Txn) { x.Session = 0 },
		func(x *api.Txn) { x.Session = maxTime + 1 },
		func(x *api.Txn) { x.Request = -1 },
		func(x *api.Txn) { x.Request = maxTime + 1 },
		func(x *api.Txn) { x.Args = make([]int64, 9) },
		func(x *api.Txn) { x.Args = nil },
		func(x *api.Txn) { x.Reads = rising()[:17] },
		func(x *api.Txn) { x.Writes = rising()[:17] },
		func(x *api.Txn) { x.Reads = keys(b, a) },
		func(x *api.Txn) { x.Writes = keys(a, a) },
		func(x *api.Txn) { x.Writes = nil },
		func(x *api.Txn) { x.Code = make([]byte, 513) },
		func(x *api.Txn) { x.Code = []byte{99} },
		func(x *api.Txn) { x.Code = append(x.Code, 28) },
		func(x *api.Txn) { x.Code = append(x.Code, api.InOut) },
		func(x *api.Txn) { x.Code = append(x.Code, api.InOut, 8) },
		func(x *api.Txn) { x.Code = append(x.Code, api.InNarrow, 0, 64) },
		func(x *api.Txn) { x.Code = append(x.Code, api.InJump, 1, 0) },
		func(x *api.Txn) { x.Code = append(x.Code, api.InLoad, 0, 2) },
		func(x *api.Txn) { x.Code = append(x.Code, api.InHas, 0, 2) },
		func(x *api.Txn) { x.Code = append(x.Code, api.InErase, 1) },
	} {
		for _, fuel := range fuels() {
			x := good()
			spoil(&x)
			if got := eval.Run(x, pairs(pair(a, 1)), fuel); !isOutcome(got, api.Outcome{End: api.EndCode}) {
				t.Error(i, fuel, got)
			}
		}
	}
}

// P14.1, R4: of no instructions nothing runs, whatever the fuel is; it ends as by InHalt.
func TestNoInstructions(t *testing.T) {
	for _, fuel := range fuels() {
		runs(t, api.Txn{Session: 1, Request: 1}, nil, fuel, api.Outcome{})
		runs(t, api.Txn{Session: maxTime, Request: maxTime, Code: []byte{}, Args: []int64{}, Reads: keys(), Writes: keys()}, pairs(), fuel, api.Outcome{})
		runs(t, given(with(api.Txn{Session: 2, Request: 3}, keys(a), keys(b)), 1), pairs(pair(a, 1), pair(b, 2)), fuel, api.Outcome{})
	}
}

// P14.1, P14.4: with just so much fuel as instructions run it ends, with less it does not; one that halts and one that runs out behind its last instruction.
func TestFuel(t *testing.T) {
	for n := range 6 {
		var l []api.Instr
		for i := range n {
			l = append(l, constant(0, int64(i)))
		}
		for _, x := range [][]api.Instr{l, append(slices.Clone(l), halt()), append(slices.Clone(l), halt(), constant(1, 1), out(1))} {
			steps := n + min(len(x)-n, 1)
			for _, fuel := range append(fuels(), 4, 5, 6, 7) {
				if max(fuel, 0) < steps {
					ends(t, txn(t, x...), fuel, api.EndFuel, max(fuel, 0))
				} else {
					ends(t, txn(t, x...), fuel, api.EndOK, steps)
				}
			}
		}
	}
}

// P14.1: what ends a run is asked behind the fuel, for each instruction that ends it.
func TestFuelAheadOfAll(t *testing.T) {
	for end, x := range map[int]api.Instr{api.EndOK: halt(), api.EndZero: instr(api.InMod, 0, 0, 0), api.EndFoot: loadAt(0, 0, 9), api.EndAbort + 3: abort(3)} {
		code := txn(t, constant(1, 1), x)
		for _, fuel := range fuels() {
			if fuel < 2 {
				ends(t, code, fuel, api.EndFuel, max(fuel, 0))
			} else {
				ends(t, code, fuel, end, 2)
			}
		}
	}
}

// counts are instructions of which 2 and twice n run.
func counts(n int64) []api.Instr {
	return []api.Instr{constant(0, n), constant(1, 1), instr(api.InSub, 0, 1, 0), jumpIf(0, 8)}
}

// P14.1, P14.4: MaxFuel instructions may run, and not one more, whatever the fuel is.
func TestMaxFuel(t *testing.T) {
	most, more := txn(t, counts(2047)...), txn(t, append(counts(2047), move(2, 0))...)
	ends(t, most, maxFuel-1, api.EndFuel, maxFuel-1)
	ends(t, more, maxFuel-1, api.EndFuel, maxFuel-1)
	for _, fuel := range []int{maxFuel, maxFuel + 1, maxFuel + 2, 2 * maxFuel, 1 << 31, 1 << 32, 1<<32 + 1, math.MaxInt} {
		ends(t, most, fuel, api.EndOK, maxFuel)
		ends(t, more, fuel, api.EndFuel, maxFuel)
		ends(t, txn(t, jump(0)), fuel, api.EndFuel, maxFuel)
		ends(t, txn(t, append(counts(2047), abort(0))...), fuel, api.EndFuel, maxFuel)
		ends(t, txn(t, append(counts(2046), move(2, 0), abort(0))...), fuel, api.EndAbort, maxFuel)
	}
}

// registers are what a run makes of eight registers, all of which it answers.
func registers(t *testing.T, x api.Instr, from [8]int64, reads, writes []api.Key, values []api.Pair) api.Outcome {
	t.Helper()
	var l []api.Instr
	for i := range 8 {
		l = append(l, argument(i, int64(i)))
	}
	l = append(l, x)
	for i := range 8 {
		l = append(l, out(i))
	}
	return eval.Run(given(with(txn(t, l...), reads, writes), from[:]...), values, maxFuel)
}

// becomes fails the test, unless an instruction makes of its A that number, and leaves all other registers, and all keys, as they are.
func becomes(t *testing.T, x api.Instr, from [8]int64, reads []api.Key, values []api.Pair, want int64) {
	t.Helper()
	got := registers(t, x, from, reads, nil, values)
	from[x.A] = want
	if !isOutcome(got, api.Outcome{Values: from[:], Steps: 17}) {
		t.Errorf("%+v of %v: %+v, not %d", x, from, got, want)
	}
}

// plain are eight registers that differ.
func plain() [8]int64 { return [8]int64{least, -300, -7, -1, 0, 3, 70000, greatest} }

// P14.1: registers are 0 at the beginning, whatever ran ahead.
func TestRegistersBegin(t *testing.T) {
	var l []api.Instr
	for i := range 8 {
		l = append(l, out(i))
	}
	for range 3 {
		runs(t, txn(t, l...), nil, maxFuel, api.Outcome{Values: make([]int64, 8), Steps: 8})
		registers(t, halt(), plain(), nil, nil, nil)
	}
}

// P14.1: InConst with each Imm at an edge, InArg of each argument, InMove of each two registers, the same ones too.
func TestConstArgMove(t *testing.T) {
	for r := range 8 {
		for _, n := range []int64{-32768, -32767, -256, -1, 0, 1, 255, 256, 32767} {
			becomes(t, constant(r, n), plain(), nil, nil, n)
		}
		for i, v := range plain() {
			becomes(t, argument(r, int64(i)), plain(), nil, nil, v)
			becomes(t, move(r, i), plain(), nil, nil, v)
		}
	}
	for _, v := range edges() {
		runs(t, given(txn(t, argument(0, 0), out(0)), v), nil, 9, api.Outcome{Values: numbers(v), Steps: 2})
	}
}

// P14.1: InAdd to InUshr, InLess and InEqual of each two registers, the same ones too: A becomes what Binary says.
func TestRunBinary(t *testing.T) {
	for op := api.InAdd; op <= api.InEqual; op++ {
		if op == api.InNarrow {
			continue
		}
		for i, v := range plain() {
			for j, w := range plain() {
				n, end := modelBinary(op, v, w)
				if end == api.EndOK {
					becomes(t, instr(op, i, j, 0), plain(), nil, nil, n)
				} else {
					sameOutcome(t, registers(t, instr(op, i, j, 0), plain(), nil, nil, nil), api.Outcome{End: end, Steps: 9})
				}
			}
		}
	}
}

// P14.1: each Op of two numbers, and of one with itself, written out; A is the left one.
func TestRunBinaryByHand(t *testing.T) {
	for _, x := range []struct {
		op           int
		other, again int64
	}{
		{api.InAdd, -4, -14}, {api.InSub, -10, 0}, {api.InMul, -21, 49}, {api.InDiv, -2, 1}, {api.InMod, -1, 0}, {api.InAnd, 1, -7}, {api.InOr, -5, -7}, {api.InXor, -6, 0},
		{api.InShl, -56, -7 << 57}, {api.InShr, -1, -1}, {api.InUshr, 1<<61 - 1, 127}, {api.InLess, 1, 0}, {api.InEqual, 0, 1},
	} {
		becomes(t, instr(x.op, 0, 1, 0), [8]int64{-7, 3}, nil, nil, x.other)
		becomes(t, instr(x.op, 5, 5, 0), [8]int64{5: -7}, nil, nil, x.again)
	}
}

// P14.1: InNarrow of each register to each width.
func TestRunNarrow(t *testing.T) {
	for _, bits := range []int64{8, 16, 32} {
		for r, v := range plain() {
			becomes(t, instr(api.InNarrow, r, 0, bits), plain(), nil, nil, modelNarrow(v, bits))
		}
	}
	becomes(t, instr(api.InNarrow, 1, 0, 8), [8]int64{0, 200}, nil, nil, -56)
}

// P14.1: InLoad, InHas and InLoadAt of each register, of a key that has a value, one that is 0 too, and of one that has none.
func TestLoads(t *testing.T) {
	l := keys(key(0, -5), key(0, 9), key(7, -1))
	values := pairs(pair(l[0], -50), pair(l[2], 0))
	for r := range 8 {
		becomes(t, load(r, 0), plain(), l, values, -50)
		becomes(t, load(r, 1), plain(), l, values, 0)
		becomes(t, load(r, 2), plain(), l, values, 0)
		becomes(t, has(r, 0), plain(), l, values, 1)
		becomes(t, has(r, 1), plain(), l, values, 0)
		becomes(t, has(r, 2), plain(), l, values, 1)
		for b := range 8 {
			from := plain()
			from[b] = -5
			becomes(t, loadAt(r, b, 0), from, l, values, -50)
			from[b] = 9
			becomes(t, loadAt(r, b, 0), from, l, values, 0)
			from[b] = -1
			becomes(t, loadAt(r, b, 7), from, l, values, 0)
		}
	}
}

// P14.1: InStore, InErase and InStoreAt of each register; no register becomes another.
func TestStores(t *testing.T) {
	l := keys(key(0, -5), key(0, 9), key(7, -1))
	for i, k := range l {
		for r := range 8 {
			from := plain()
			sameOutcome(t, registers(t, store(r, int64(i)), from, nil, l, nil), api.Outcome{Values: from[:], Changes: changes(put(k, from[r])), Steps: 17})
			for b := range 8 {
				from := plain()
				from[b] = k.Row
				sameOutcome(t, registers(t, storeAt(r, b, int64(k.Table)), from, nil, l, nil), api.Outcome{Values: from[:], Changes: changes(put(k, from[r])), Steps: 17})
			}
		}
		from := plain()
		sameOutcome(t, registers(t, erase(int64(i)), from, nil, l, nil), api.Outcome{Values: from[:], Changes: changes(gone(k)), Steps: 17})
	}
}

// written are what a run may have done to its key by the time at which the key is asked, and what the key has then, as its change.
func written() map[string]struct {
	l    []api.Instr
	want []api.Change
} {
	k := key(4, -2)
	one, two, wipe := []api.Instr{constant(0, 11), store(0, 0)}, []api.Instr{constant(0, 22), constant(1, -2), storeAt(0, 1, 4)}, []api.Instr{erase(0)}
	nought := []api.Instr{constant(0, 0), store(0, 0)}
	return map[string]struct {
		l    []api.Instr
		want []api.Change
	}{
		"nothing":               {nil, nil},
		"written":               {one, changes(put(k, 11))},
		"written by its row":    {two, changes(put(k, 22))},
		"written as 0":          {nought, changes(put(k, 0))},
		"erased":                {wipe, changes(gone(k))},
		"erased twice":          {slices.Concat(wipe, wipe), changes(gone(k))},
		"written twice":         {slices.Concat(one, two), changes(put(k, 22))},
		"written back":          {slices.Concat(two, one), changes(put(k, 11))},
		"written, erased":       {slices.Concat(one, wipe), changes(gone(k))},
		"erased, written":       {slices.Concat(wipe, one), changes(put(k, 11))},
		"erased, written as 0":  {slices.Concat(wipe, nought), changes(put(k, 0))},
		"by its row, erased":    {slices.Concat(two, wipe), changes(gone(k))},
		"written, erased again": {slices.Concat(one, wipe, two), changes(put(k, 22))},
		"and again":             {slices.Concat(one, wipe, two, wipe), changes(gone(k))},
	}
}

// P14.1: a key's value is what was written last, whether it had one ahead or not; each way to ask tells the same, and asking writes nothing.
func TestWrittenSoFar(t *testing.T) {
	k := key(4, -2)
	for name, w := range written() {
		for _, values := range [][]api.Pair{nil, {pair(k, 5)}} {
			v, is := int64(0), len(values) > 0
			if is {
				v = 5
			}
			if len(w.want) > 0 {
				v, is = w.want[0].Value, !w.want[0].Erase
			}
			ask := []api.Instr{load(2, 0), has(3, 0), constant(4, -2), loadAt(4, 4, 4), out(2), out(3), out(4)}
			x := with(txn(t, slices.Concat(w.l, ask)...), keys(k), keys(k))
			got := eval.Run(x, values, maxFuel)
			if !isOutcome(got, api.Outcome{Values: numbers(v, truth(is), v), Changes: w.want, Steps: len(w.l) + 7}) {
				t.Error(name, values, got)
			}
		}
	}
}

// P14.1: what is written to a key is not another one's, though its table or its row be the same, and the keys of Reads and Writes have other numbers.
func TestOtherKeysStay(t *testing.T) {
	reads := keys(key(1, 1), key(1, 2), key(2, 1), key(2, 2))
	values := pairs(pair(reads[0], 10), pair(reads[1], 20), pair(reads[2], 30))
	ask := []api.Instr{load(1, 0), load(2, 1), load(3, 2), load(4, 3), has(5, 3), out(1), out(2), out(3), out(4), out(5)}
	for i, want := range [][]int64{{10, 77, 30, 0, 0}, {10, 20, 77, 0, 0}, {10, 20, 30, 77, 1}} {
		x := with(txn(t, append([]api.Instr{constant(0, 77), store(0, int64(i))}, ask...)...), reads, reads[1:])
		runs(t, x, values, maxFuel, api.Outcome{Values: want, Changes: changes(put(reads[1+i], 77)), Steps: 12})
	}
	for i, want := range [][]int64{{10, 0, 30, 0, 0}, {10, 20, 0, 0, 0}, {10, 20, 30, 0, 0}} {
		x := with(txn(t, append([]api.Instr{erase(int64(i))}, ask...)...), reads, reads[1:])
		runs(t, x, values, maxFuel, api.Outcome{Values: want, Changes: changes(gone(reads[1+i])), Steps: 11})
	}
}

// P14.1: a key of the Writes that is none of the Reads can't be asked for, though it was written, and though values has it.
func TestWritesAreNotRead(t *testing.T) {
	r, w := key(1, 3), key(1, 4)
	values := pairs(pair(r, 30), pair(w, 40))
	for _, ahead := range [][]api.Instr{nil, {store(0, 0)}, {erase(0)}, {erase(0), store(0, 0)}, {storeAt(0, 1, 1)}} {
		l := append([]api.Instr{constant(0, 9), constant(1, 4)}, ahead...)
		x := with(txn(t, append(l, loadAt(2, 1, 1), out(2))...), keys(r), keys(w))
		runs(t, x, values, maxFuel, api.Outcome{End: api.EndFoot, Steps: len(l) + 1})
		x = with(txn(t, append(l, load(2, 0), out(2), has(2, 0), out(2))...), keys(r), keys(w))
		got := eval.Run(x, values, maxFuel)
		sameList(t, got.Values, numbers(30, 1))
		same(t, got.End, api.EndOK)
	}
	x := with(txn(t, constant(1, 3), storeAt(0, 1, 1)), keys(r), keys(w))
	runs(t, x, values, maxFuel, api.Outcome{End: api.EndFoot, Steps: 2})
}

// P14.1: values are a map: of a key twice the last pair counts, in whatever order they come; keys that are none of the Reads count for nothing.
func TestValues(t *testing.T) {
	x := with(txn(t, load(0, 0), out(0), has(0, 0), out(0), load(0, 1), out(0), has(0, 1), out(0)), keys(a, c), keys(b))
	for _, y := range []struct {
		values []api.Pair
		want   []int64
	}{
		{nil, numbers(0, 0, 0, 0)},
		{pairs(), numbers(0, 0, 0, 0)},
		{pairs(pair(b, 5), pair(d, 6)), numbers(0, 0, 0, 0)},
		{pairs(pair(a, 1)), numbers(1, 1, 0, 0)},
		{pairs(pair(c, 3)), numbers(0, 0, 3, 1)},
		{pairs(pair(a, 0), pair(c, 0)), numbers(0, 1, 0, 1)},
		{pairs(pair(a, 1), pair(c, 3)), numbers(1, 1, 3, 1)},
		{pairs(pair(c, 3), pair(a, 1)), numbers(1, 1, 3, 1)},
		{pairs(pair(d, 6), pair(c, 3), pair(b, 5), pair(a, 1)), numbers(1, 1, 3, 1)},
		{pairs(pair(a, 1), pair(a, 2)), numbers(2, 1, 0, 0)},
		{pairs(pair(a, 2), pair(a, 1)), numbers(1, 1, 0, 0)},
		{pairs(pair(a, 9), pair(c, 3), pair(a, 0), pair(c, 4), pair(b, 5)), numbers(0, 1, 4, 1)},
		{pairs(pair(key(a.Table, c.Row), 1), pair(key(c.Table, a.Row), 2)), numbers(0, 0, 0, 0)},
	} {
		runs(t, x, y.values, maxFuel, api.Outcome{Values: y.want, Steps: 8})
	}
}

// P14.1: InLoadAt and InStoreAt go by Table and Row: each table that an Imm can say, each row that a register can have, within the footprint and outside of it.
func TestFootprint(t *testing.T) {
	rows := []int64{least, math.MinInt32, -256, -1, 0, 1, 255, 1 << 32, greatest}
	for _, table := range []int64{0, 1, 127, 128, 255} {
		for _, row := range rows {
			k := key(int32(table), row)
			read := given(txn(t, argument(1, 0), loadAt(2, 1, table), out(2)), row)
			write := given(txn(t, argument(1, 0), storeAt(1, 1, table), out(1)), row)
			values := pairs(pair(k, 8))
			runs(t, with(read, keys(k), nil), values, 9, api.Outcome{Values: numbers(8), Steps: 3})
			runs(t, with(read, keys(k), nil), nil, 9, api.Outcome{Values: numbers(0), Steps: 3})
			runs(t, with(write, nil, keys(k)), values, 9, api.Outcome{Values: numbers(row), Changes: changes(put(k, row)), Steps: 3})
			for _, l := range [][]api.Key{nil, {key(k.Table, row^1)}, {key(k.Table, row^1<<32)}, {key(k.Table, row^least)}, {key(k.Table^1, row)}, {key(k.Table^256, row)}, {key(k.Table-256, row)}, {key(^k.Table, row)}} {
				runs(t, with(read, l, keys(k)), values, 9, api.Outcome{End: api.EndFoot, Steps: 2})
				runs(t, with(write, keys(k), l), values, 9, api.Outcome{End: api.EndFoot, Steps: 2})
			}
		}
	}
}

// P14.1: InLoadAt and InStoreAt find each key of a footprint that is as long as may be.
func TestFootprintOfMost(t *testing.T) {
	var l []api.Key
	for row := range int64(16) {
		l = append(l, key(int32(row/6), 3*row-20))
	}
	for i, k := range l {
		x := given(txn(t, argument(0, 0), loadAt(1, 0, int64(k.Table)), out(1), storeAt(0, 0, int64(k.Table))), k.Row)
		runs(t, with(x, l, l), pairs(pair(k, int64(i))), 9, api.Outcome{Values: numbers(int64(i)), Changes: changes(put(k, k.Row)), Steps: 4})
		for _, off := range []int64{-1, 1} {
			ends(t, with(given(x, k.Row+off), l, l), 9, api.EndFoot, 2)
		}
	}
}

// P14.1: with A and B the same register InLoadAt reads its row ahead of the value, and InStoreAt writes the row.
func TestOneRegisterTwice(t *testing.T) {
	k := key(2, 6)
	x := with(txn(t, constant(3, 6), loadAt(3, 3, 2), out(3), constant(3, 6), storeAt(3, 3, 2), load(4, 0), out(4)), keys(k), keys(k))
	runs(t, x, pairs(pair(k, 60)), 9, api.Outcome{Values: numbers(60, 6), Changes: changes(put(k, 6)), Steps: 7})
}

// P14.1: InOut of up to MaxOut values, in order, the same one too, and of one more.
func TestOut(t *testing.T) {
	var l []api.Instr
	var want []int64
	for n := range int64(8) {
		l = append(l, constant(int(n%3), 5-n), out(int(n%3)))
		want = append(want, 5-n)
		runs(t, txn(t, l...), nil, maxFuel, api.Outcome{Values: want, Steps: len(l)})
		runs(t, txn(t, slices.Repeat([]api.Instr{out(1)}, int(n)+1)...), nil, maxFuel, api.Outcome{Values: make([]int64, n+1), Steps: int(n) + 1})
	}
	ends(t, txn(t, append(l, out(0))...), maxFuel, api.EndOut, 17)
	ends(t, txn(t, append(l, constant(0, 1), out(0), halt())...), maxFuel, api.EndOut, 18)
	ends(t, txn(t, append(l, halt(), out(0))...), 16, api.EndFuel, 16)
	runs(t, txn(t, append(l, halt(), out(0))...), nil, 17, api.Outcome{Values: want, Steps: 17})
	ends(t, txn(t, out(0), jump(0)), maxFuel, api.EndOut, 17)
}

// P14.1: InAbort with each code.
func TestAbort(t *testing.T) {
	for n := range 256 {
		ends(t, txn(t, abort(int64(n)), halt()), maxFuel, 100+n, 1)
	}
	ends(t, txn(t, halt(), abort(7)), maxFuel, api.EndOK, 1)
}

// P14.1: jumps that are taken and such as are not, back, onward and to themselves.
func TestJumps(t *testing.T) {
	for _, x := range []struct {
		name string
		l    []api.Instr
		args []int64
		want api.Outcome
	}{
		{"onward", []api.Instr{jump(5), out(0), constant(0, 3), out(0)}, nil, api.Outcome{Values: numbers(3), Steps: 3}},
		{"to the next", []api.Instr{jump(3), out(0)}, nil, api.Outcome{Values: numbers(0), Steps: 2}},
		{"to the last", []api.Instr{jump(6), abort(1), halt(), halt()}, nil, api.Outcome{Steps: 2}},
		{"to itself", []api.Instr{jump(0)}, nil, api.Outcome{End: api.EndFuel, Steps: maxFuel}},
		{"to itself, further on", []api.Instr{out(0), jump(2)}, nil, api.Outcome{End: api.EndFuel, Steps: maxFuel}},
		{"back", []api.Instr{jump(8), out(0), jump(12), constant(0, 4), jump(3)}, nil, api.Outcome{End: api.EndOut, Steps: 4 + 8*3}},
		{"back once", []api.Instr{jump(6), out(0), halt(), constant(0, 4), jump(3)}, nil, api.Outcome{Values: numbers(4), Steps: 5}},
		{"if, taken", []api.Instr{argument(0, 0), jumpIf(0, 9), abort(1), constant(0, 2), out(0)}, []int64{1}, api.Outcome{Values: numbers(2), Steps: 4}},
		{"if, taken over more", []api.Instr{argument(0, 0), jumpIf(0, 13), abort(1), constant(0, 2), out(0)}, []int64{5}, api.Outcome{Values: numbers(5), Steps: 3}},
		{"if, not taken", []api.Instr{argument(0, 0), jumpIf(0, 9), abort(1), constant(0, 2), out(0)}, []int64{0}, api.Outcome{End: api.EndAbort + 1, Steps: 3}},
		{"if, to itself", []api.Instr{argument(0, 0), jumpIf(0, 3)}, []int64{1}, api.Outcome{End: api.EndFuel, Steps: maxFuel}},
		{"if, to itself, not taken", []api.Instr{argument(0, 0), jumpIf(0, 3)}, []int64{0}, api.Outcome{Steps: 2}},
		{"if, back", []api.Instr{argument(0, 0), out(0), constant(1, 1), instr(api.InSub, 0, 1, 0), jumpIf(0, 3)}, []int64{3}, api.Outcome{Values: numbers(3, 2, 1), Steps: 13}},
		{"if, back from below 0", []api.Instr{argument(0, 0), out(0), constant(1, 1), instr(api.InAdd, 0, 1, 0), jumpIf(0, 3)}, []int64{-2}, api.Outcome{Values: numbers(-2, -1), Steps: 9}},
	} {
		got := eval.Run(given(txn(t, x.l...), x.args...), nil, maxFuel)
		if !isOutcome(got, x.want) {
			t.Error(x.name, got, x.want)
		}
	}
}

// P14.1: InJumpIf goes by all of its register, and by no other one; neither jump changes one.
func TestJumpIf(t *testing.T) {
	for r := range 8 {
		for _, v := range edges() {
			var others, alone [8]int64
			for i := range others {
				others[i] = 1
			}
			others[r], alone[r] = 0, v
			over := txn(t, argument(r, int64(r)), jumpIf(r, 9), abort(1), out(r))
			runs(t, given(over, others[:]...), nil, 9, api.Outcome{End: api.EndAbort + 1, Steps: 3})
			if v == 0 {
				runs(t, given(over, alone[:]...), nil, 9, api.Outcome{End: api.EndAbort + 1, Steps: 3})
			} else {
				runs(t, given(over, alone[:]...), nil, 9, api.Outcome{Values: numbers(v), Steps: 3})
			}
		}
		becomes(t, jumpIf(r, 28), plain(), nil, nil, plain()[r]) // taken or not, it goes on behind itself
	}
	becomes(t, jump(27), plain(), nil, nil, plain()[0])
}

// P14.1: each way to end but EndOK tells nothing but itself and its Steps, whatever was answered and changed ahead of it; the same run without it tells that.
func TestAbortedTellsNothing(t *testing.T) {
	ahead := []api.Instr{constant(0, 7), store(0, 0), erase(1), out(0), load(1, 0), out(1)} // of 4, 3, 2, 2, 3 and 2 bytes
	x := with(txn(t, append(ahead, halt())...), keys(a), keys(a, b))
	runs(t, x, pairs(pair(a, 1)), maxFuel, api.Outcome{Values: numbers(7, 7), Changes: changes(put(a, 7), gone(b)), Steps: 7})
	for _, y := range []struct {
		name       string
		l          []api.Instr
		fuel       int
		end, steps int
	}{
		{"fuel, ahead of the end", []api.Instr{halt()}, 6, api.EndFuel, 6},
		{"fuel, in the middle", []api.Instr{halt()}, 4, api.EndFuel, 4},
		{"fuel, most", []api.Instr{jump(16)}, math.MaxInt, api.EndFuel, maxFuel},
		{"division", []api.Instr{instr(api.InDiv, 0, 2, 0)}, maxFuel, api.EndZero, 7},
		{"rest", []api.Instr{instr(api.InMod, 0, 2, 0), halt()}, 7, api.EndZero, 7},
		{"division of 0", []api.Instr{instr(api.InDiv, 2, 2, 0)}, 7, api.EndZero, 7},
		{"reads", []api.Instr{loadAt(0, 2, 9)}, maxFuel, api.EndFoot, 7},
		{"writes", []api.Instr{move(3, 0), storeAt(0, 2, 9), halt()}, maxFuel, api.EndFoot, 8},
		{"answers", slices.Repeat([]api.Instr{out(0)}, 7), maxFuel, api.EndOut, 13},
		{"abort", []api.Instr{abort(0)}, 7, api.EndAbort, 7},
		{"abort, greatest", []api.Instr{abort(255), halt()}, maxFuel, api.EndAbort + 255, 7},
		{"abort, as EndCode is", []api.Instr{abort(1)}, maxFuel, api.EndAbort + 1, 7},
	} {
		x := with(txn(t, append(slices.Clone(ahead), y.l...)...), keys(a), keys(a, b))
		for _, values := range [][]api.Pair{nil, {pair(a, 1)}} {
			got := eval.Run(x, values, y.fuel)
			if !isOutcome(got, api.Outcome{End: y.end, Steps: y.steps}) {
				t.Error(y.name, got)
			}
		}
	}
}

// P14.1: behind the last instruction it ends as by InHalt, but for the step; a halt in the middle leaves what is behind it undone.
func TestBehindTheLast(t *testing.T) {
	l := []api.Instr{constant(0, 7), store(0, 0), out(0)}
	for steps, more := range map[int][]api.Instr{3: nil, 4: {halt(), erase(0), out(0), abort(9)}} {
		x := with(txn(t, append(slices.Clone(l), more...)...), nil, keys(a))
		runs(t, x, nil, maxFuel, api.Outcome{Values: numbers(7), Changes: changes(put(a, 7)), Steps: steps})
		runs(t, x, nil, steps, api.Outcome{Values: numbers(7), Changes: changes(put(a, 7)), Steps: steps})
		runs(t, x, nil, steps-1, api.Outcome{End: api.EndFuel, Steps: steps - 1})
	}
	long := make([]byte, 512) // halts, as many as may be; and moves, 170 of them
	ends(t, api.Txn{Session: 1, Request: 1, Code: long}, maxFuel, api.EndOK, 1)
	ends(t, txn(t, slices.Repeat([]api.Instr{move(0, 1)}, 170)...), maxFuel, api.EndOK, 170)
	last := append(slices.Repeat([]api.Instr{move(0, 1)}, 169), jump(511), halt(), halt()) // the jump is the bytes 507 to 509
	ends(t, txn(t, last...), maxFuel, api.EndOK, 171)
	last[169].Imm = 507
	ends(t, txn(t, last...), maxFuel, api.EndFuel, maxFuel)
}

// P14.1, P14.3: Changes of a run rise by keys, whatever the order in which they were written; with a value and without one; of all keys that were written, though they had that value.
func TestChangesOfRun(t *testing.T) {
	var reads []api.Key
	var values []api.Pair
	var want []api.Change
	for i, k := range rising()[:16] {
		reads, values = append(reads, k), append(values, pair(k, int64(i)))
		if i%5 == 0 {
			want = append(want, gone(k))
		} else {
			want = append(want, put(k, int64(i)))
		}
	}
	for step := 1; step < 16; step += 2 { // odd: so each key comes once
		var l []api.Instr
		for i := range 16 {
			n := int64(i*step+3) % 16
			if n%5 == 0 {
				l = append(l, erase(n))
			} else {
				l = append(l, load(0, n), store(0, n))
			}
		}
		runs(t, with(txn(t, l...), reads, reads), values, maxFuel, api.Outcome{Changes: want, Steps: len(l)})
	}
}
