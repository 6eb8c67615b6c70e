package eval_test

import (
	"math/rand"
	"slices"
	"testing"

	"trivet/api"
	"trivet/eval"
)

// spoil writes over a list, as far as its memory goes.
func spoil[T any](l []T, x T) {
	l = l[:cap(l)]
	for i := range l {
		l[i] = x
	}
}

// roomy is a list with memory behind its end, that has something in it.
func roomy[T any](l []T, x T) []T {
	l = slices.Grow(slices.Clone(l), 16)
	spoil(l[len(l):], x)
	return l
}

// watched is a list, and what it was as far as its memory goes.
type watched[T comparable] struct{ now, was []T }

func watch[T comparable](l []T, x T) watched[T] {
	l = roomy(l, x)
	return watched[T]{l, slices.Clone(l[:cap(l)])}
}

func (w watched[T]) stays(t *testing.T) {
	t.Helper()
	sameList(t, w.now[:cap(w.now)], w.was)
}

// busy is a transaction that asks for all it has, writes, erases and answers.
func busy(t *testing.T) api.Txn {
	t.Helper()
	x := txn(t, argument(0, 1), store(0, 2), erase(1), load(1, 0), has(2, 1), constant(3, 3), loadAt(4, 3, 1), storeAt(3, 3, 1), store(1, 0), out(0), out(1), out(2), out(4), out(0))
	return given(with(x, keys(a, b, d), keys(a, b, d)), 30, -40)
}

// What stands in memory that is nobody's to see.
var oddKey, oddPair, oddChange = key(99, 99), pair(key(99, 99), 99), put(key(99, 99), 99)

// R3: a transaction's lists and the values that are handed in stay as they were, also behind their ends, whether it runs, aborts or is refused.
func TestRunWritesNothing(t *testing.T) {
	r := rand.New(rand.NewSource(8))
	for i := range 3000 {
		x, m := busy(t), drawnPairs(r, 12)
		if i > 0 {
			x = drawnTxn(r)
		}
		if i%10 == 1 {
			x.Code = append(x.Code, 99)
		}
		codes, args, reads, writes, values := watch(x.Code, 77), watch(x.Args, 77), watch(x.Reads, oddKey), watch(x.Writes, oddKey), watch(m, oddPair)
		x.Code, x.Args, x.Reads, x.Writes = codes.now, args.now, reads.now, writes.now
		eval.Run(x, values.now, drawnFuel(r))
		eval.Needs(x, values.now)
		codes.stays(t)
		args.stays(t)
		reads.stays(t)
		writes.stays(t)
		values.stays(t)
		if t.Failed() {
			t.Fatal(x, m)
		}
	}
}

// R3: pairs, changes and outcomes that are handed in stay as they were, also behind their ends, in whatever order they stand.
func TestMapsWriteNothing(t *testing.T) {
	r := rand.New(rand.NewSource(9))
	for range 2000 {
		m, l, numbers := watch(drawnPairs(r, 12), oddPair), watch(drawnChanges(r, 12), oddChange), watch(make([]int64, r.Intn(9)), 77)
		eval.Changes(l.now...)
		eval.Apply(m.now, l.now...)
		eval.Needs(api.Txn{Reads: drawnFoot(r)}, m.now)
		o := api.Outcome{Values: numbers.now, Changes: l.now}
		eval.Same(o, o)
		eval.Same(o, api.Outcome{Values: numbers.now})
		m.stays(t)
		l.stays(t)
		numbers.stays(t)
	}
}

// R3: an outcome is nobody else's: neither what was handed in, nor another outcome, nor a later run sees what is done to it.
func TestOutcomesAreNew(t *testing.T) {
	m := pairs(pair(d, 4), pair(a, 1))
	want := api.Outcome{Values: numbers(-40, 1, 0, -40, -40), Changes: changes(put(a, 1), gone(b), put(d, 3)), Steps: 14}
	x := busy(t)
	was := busy(t)
	one, two := eval.Run(x, m, maxFuel), eval.Run(x, m, maxFuel)
	sameOutcome(t, one, want)
	spoil(one.Values, 77)
	spoil(one.Changes, oddChange)
	sameOutcome(t, two, want)
	sameOutcome(t, eval.Run(x, m, maxFuel), want)
	sameList(t, x.Code, was.Code)
	sameList(t, x.Args, was.Args)
	sameList(t, x.Reads, was.Reads)
	sameList(t, x.Writes, was.Writes)
	sameList(t, m, pairs(pair(d, 4), pair(a, 1)))
	spoil(x.Code, 0) // and the other way round: what was handed in is its owner's again
	spoil(x.Args, 77)
	spoil(x.Reads, oddKey)
	spoil(x.Writes, oddKey)
	spoil(m, oddPair)
	sameOutcome(t, two, want)
}

// R3: what Changes, Apply and Needs answer is nobody else's, also where nothing had to be sorted or left out.
func TestMapsAreNew(t *testing.T) {
	m, l := pairs(pair(a, 1), pair(c, 3)), changes(put(a, 5), gone(b))
	x := api.Txn{Reads: keys(a, c)}
	c1, c2, a1, a2, n1, n2 := eval.Changes(l...), eval.Changes(l...), eval.Apply(m), eval.Apply(m), eval.Needs(x, m), eval.Needs(x, m)
	for _, one := range [][]api.Pair{a1, n1} {
		spoil(one, oddPair)
	}
	spoil(c1, oddChange)
	sameList(t, m, a2)
	sameList(t, m, n2)
	sameList(t, l, c2)
	spoil(m, oddPair)
	spoil(l, oddChange)
	spoil(x.Reads, oddKey)
	sameList(t, a2, pairs(pair(a, 1), pair(c, 3)))
	sameList(t, n2, pairs(pair(a, 1), pair(c, 3)))
	sameList(t, c2, changes(put(a, 5), gone(b)))
}

// R4, R5: of nothing there is nothing: a zero transaction is refused, and has no needs; a zero outcome is the same as itself.
func TestOfNothing(t *testing.T) {
	for range 2 {
		for _, fuel := range fuels() {
			runs(t, api.Txn{}, nil, fuel, api.Outcome{End: api.EndCode})
			runs(t, api.Txn{Code: []byte{}, Args: []int64{}, Reads: keys(), Writes: keys()}, pairs(), fuel, api.Outcome{End: api.EndCode})
		}
		same(t, len(eval.Changes())+len(eval.Apply(nil))+len(eval.Needs(api.Txn{}, nil)), 0)
		same(t, eval.Same(api.Outcome{}, api.Outcome{}), true)
	}
}

// R6: the same calls answer the same, whatever ran between, and whatever the order of a map is.
func TestSameAgain(t *testing.T) {
	r := rand.New(rand.NewSource(10))
	var l []api.Change
	var m []api.Pair
	for row := range int64(50) {
		l = append(l, put(key(int32(row%3), row), row))
		m = append(m, pair(key(int32(row%4), row), -row))
	}
	x := busy(t)
	changed, applied, needed, ran := eval.Changes(l...), eval.Apply(m, l...), eval.Needs(x, m), eval.Run(x, m, maxFuel)
	for range 200 {
		eval.Run(drawnTxn(r), drawnPairs(r, 12), 100)
		sameList(t, eval.Changes(l...), changed)
		sameList(t, eval.Apply(m, l...), applied)
		sameList(t, eval.Needs(x, m), needed)
		sameOutcome(t, eval.Run(x, m, maxFuel), ran)
	}
}

// THE BOUND: of long lists each call takes no more than near their length; Needs also of Reads that are as long, for it does not ask Check.
func TestLong(t *testing.T) {
	const many = 1 << 18
	var m []api.Pair
	var l []api.Change
	var reads []api.Key
	for i := range int64(many) {
		k := key(int32(i*7919%5), i*104729%many)
		m, l, reads = append(m, pair(k, i)), append(l, put(k, -i)), append(reads, k)
	}
	x := api.Txn{Reads: reads, Writes: reads}
	needed, applied, changed := eval.Needs(x, m), eval.Apply(m, l...), eval.Changes(l...)
	same(t, len(needed), many)
	same(t, len(applied), many)
	same(t, len(changed), many)
	for i, p := range applied {
		if changed[i] != put(p.Key, p.Value) || needed[i] != pair(p.Key, -p.Value) {
			t.Fatal(p, changed[i], needed[i])
		}
	}
	same(t, eval.Same(api.Outcome{Changes: changed}, api.Outcome{Changes: slices.Clone(changed)}), true)
	same(t, eval.Run(x, m, maxFuel).End, api.EndCode)
	k := m[many/3].Key
	runs(t, with(txn(t, load(0, 0), out(0)), keys(k), nil), m, maxFuel, api.Outcome{Values: numbers(many / 3), Steps: 2})
	runs(t, with(txn(t, load(0, 0), out(0)), keys(k), nil), slices.Repeat(pairs(pair(k, 5)), many), maxFuel, api.Outcome{Values: numbers(5), Steps: 2})
}

// THE BOUND: a run takes no more than near its fuel, whatever its instructions are: those that write, and those that look for a key, too.
func TestManySteps(t *testing.T) {
	var l []api.Key
	for row := range int64(16) {
		l = append(l, key(1, row))
	}
	x := with(txn(t, constant(0, 15), loadAt(1, 0, 1), storeAt(1, 0, 1), erase(3), store(1, 15), has(2, 15), load(3, 0), jump(4)), l, l)
	for range 1000 {
		runs(t, x, nil, maxFuel, api.Outcome{End: api.EndFuel, Steps: maxFuel})
	}
}
