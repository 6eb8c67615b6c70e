package eval_test

import (
	"slices"
	"testing"

	"trivet/api"
	"trivet/eval"
)

// a to d are keys, rising, one of them below 0 in all it has.
var a, b, c, d = key(-1, -5), key(0, 7), key(1, -9), key(1, 3)

// P14.3, R4: Changes of nothing, of ordinary ones, in any order, and of one key several times.
func TestChanges(t *testing.T) {
	for _, x := range []struct{ l, want []api.Change }{
		{nil, nil},
		{changes(), nil},
		{changes(put(a, 1)), changes(put(a, 1))},
		{changes(put(a, 0)), changes(put(a, 0))},
		{changes(gone(a)), changes(gone(a))},
		{changes(api.Change{}), changes(put(key(0, 0), 0))},
		{changes(put(a, 1), put(b, 2), gone(c)), changes(put(a, 1), put(b, 2), gone(c))},
		{changes(gone(d), put(c, 3), put(b, 2), gone(a)), changes(gone(a), put(b, 2), put(c, 3), gone(d))},
		{changes(put(c, 3), put(a, 1), put(d, 4), put(b, 2)), changes(put(a, 1), put(b, 2), put(c, 3), put(d, 4))},
		{changes(put(a, 1), put(a, 2)), changes(put(a, 2))},
		{changes(put(a, 2), put(a, 1)), changes(put(a, 1))},
		{changes(put(a, 5), put(a, 5)), changes(put(a, 5))},
		{changes(put(a, 1), gone(a)), changes(gone(a))},
		{changes(gone(a), put(a, 1)), changes(put(a, 1))},
		{changes(gone(a), gone(a)), changes(gone(a))},
		{changes(put(a, 1), gone(a), put(a, 0)), changes(put(a, 0))},
		{changes(gone(a), put(a, 1), gone(a)), changes(gone(a))},
		{changes(put(b, 1), put(a, 1), gone(b), put(a, 2), put(c, 9)), changes(put(a, 2), gone(b), put(c, 9))},
	} {
		for range 5 {
			sameList(t, eval.Changes(x.l...), x.want)
		}
	}
}

// P14.3: Changes of keys at all edges, in their order, the other way round and mixed, the last one of each counting.
func TestChangesOfEdges(t *testing.T) {
	var want, first, second []api.Change
	for i, k := range rising() {
		last := put(k, int64(i))
		if i%3 == 0 {
			last = gone(k)
		}
		want = append(want, last)
		first = append(first, put(k, -1))
		second = append(second, last)
	}
	sameList(t, eval.Changes(append(first, second...)...), want)
	slices.Reverse(second)
	sameList(t, eval.Changes(second...), want)
	half := len(second) / 2
	sameList(t, eval.Changes(slices.Concat(second[half:], second[:half])...), want)
	sameList(t, eval.Changes(eval.Changes(second...)...), want)
}

// P14.3: one that is told last is told as it was, whatever it holds.
func TestChangesAreTheirOwn(t *testing.T) {
	odd := api.Change{Key: b, Value: 5, Erase: true}
	sameList(t, eval.Changes(put(b, 7), odd), changes(odd))
	sameList(t, eval.Changes(odd, put(b, 7)), changes(put(b, 7)))
}

// P14.3, R4: Apply to nothing, to a key that is there and to one that is not, one by one, to a map whose pairs are in any order or have one key twice.
func TestApply(t *testing.T) {
	for _, x := range []struct {
		m    []api.Pair
		l    []api.Change
		want []api.Pair
	}{
		{nil, nil, nil},
		{pairs(), changes(), nil},
		{nil, changes(gone(a)), nil},
		{nil, changes(put(a, 1)), pairs(pair(a, 1))},
		{nil, changes(put(a, 0)), pairs(pair(a, 0))},
		{pairs(pair(a, 1)), nil, pairs(pair(a, 1))},
		{pairs(pair(a, 1)), changes(put(a, 2)), pairs(pair(a, 2))},
		{pairs(pair(a, 1)), changes(put(a, 0)), pairs(pair(a, 0))},
		{pairs(pair(a, 1)), changes(put(b, 2)), pairs(pair(a, 1), pair(b, 2))},
		{pairs(pair(b, 1)), changes(put(a, 2)), pairs(pair(a, 2), pair(b, 1))},
		{pairs(pair(a, 1)), changes(gone(a)), nil},
		{pairs(pair(a, 1)), changes(gone(b)), pairs(pair(a, 1))},
		{pairs(pair(a, 1), pair(b, 2), pair(c, 3)), changes(gone(b)), pairs(pair(a, 1), pair(c, 3))},
		{pairs(pair(a, 1), pair(b, 2)), changes(api.Change{Key: a, Value: 9, Erase: true}), pairs(pair(b, 2))},
		{pairs(pair(a, 1)), changes(put(a, 2), gone(a)), nil},
		{pairs(pair(a, 1)), changes(gone(a), put(a, 2)), pairs(pair(a, 2))},
		{pairs(pair(a, 1)), changes(gone(a), gone(a), put(a, 2), put(a, 3)), pairs(pair(a, 3))},
		{nil, changes(put(a, 2), gone(a)), nil},
		{nil, changes(gone(a), put(a, 2)), pairs(pair(a, 2))},
		{pairs(pair(d, 4), pair(a, 1), pair(c, 3), pair(b, 2)), nil, pairs(pair(a, 1), pair(b, 2), pair(c, 3), pair(d, 4))},
		{pairs(pair(d, 4), pair(a, 1), pair(c, 3)), changes(put(b, 2), gone(d)), pairs(pair(a, 1), pair(b, 2), pair(c, 3))},
		{pairs(pair(a, 1), pair(a, 2)), nil, pairs(pair(a, 2))},
		{pairs(pair(a, 2), pair(b, 5), pair(a, 1)), nil, pairs(pair(a, 1), pair(b, 5))},
		{pairs(pair(a, 1), pair(a, 2)), changes(gone(a)), nil},
		{pairs(pair(a, 1), pair(b, 0), pair(a, 2)), changes(put(a, 3)), pairs(pair(a, 3), pair(b, 0))},
		{pairs(pair(key(1, 2), 1), pair(key(2, 1), 2)), changes(gone(key(1, 1)), gone(key(2, 2))), pairs(pair(key(1, 2), 1), pair(key(2, 1), 2))},
	} {
		for range 5 {
			sameList(t, eval.Apply(x.m, x.l...), x.want)
		}
	}
}

// P14.3: Apply at keys of all edges: each of them by itself, the others being as they were.
func TestApplyOfEdges(t *testing.T) {
	var m []api.Pair
	for i, k := range rising() {
		m = append(m, pair(k, int64(i)))
	}
	for i, k := range rising() {
		without := slices.Delete(slices.Clone(m), i, i+1)
		sameList(t, eval.Apply(m, gone(k)), without)
		sameList(t, eval.Apply(without, gone(k)), without)
		other := slices.Clone(m)
		other[i].Value = -5
		sameList(t, eval.Apply(m, put(k, -5)), other)
		sameList(t, eval.Apply(without, put(k, -5)), other)
	}
}

// P14.3, R4: Needs of a map in any order, of Reads that it has not, and of Writes, for which nobody asks.
func TestNeeds(t *testing.T) {
	m := pairs(pair(d, 4), pair(b, 2), pair(a, 1), pair(c, 3))
	for _, x := range []struct {
		reads []api.Key
		m     []api.Pair
		want  []api.Pair
	}{
		{nil, nil, nil},
		{keys(), pairs(), nil},
		{nil, m, nil},
		{keys(a), nil, nil},
		{keys(a), m, pairs(pair(a, 1))},
		{keys(a, c), m, pairs(pair(a, 1), pair(c, 3))},
		{keys(a, b, c, d), m, pairs(pair(a, 1), pair(b, 2), pair(c, 3), pair(d, 4))},
		{keys(key(-1, -4), key(0, -5), key(1, 7)), m, nil},
		{keys(b, key(0, 8)), m, pairs(pair(b, 2))},
		{keys(a), pairs(pair(a, 0)), pairs(pair(a, 0))},
		{keys(a, b), pairs(pair(a, 1), pair(b, 2), pair(a, 3)), pairs(pair(a, 3), pair(b, 2))},
		{keys(b), pairs(pair(b, 3), pair(a, 4), pair(b, 2)), pairs(pair(b, 2))},
		{keys(d, a), m, pairs(pair(a, 1), pair(d, 4))}, // Reads that Check refuses: Needs does not ask it
		{keys(b, b), m, pairs(pair(b, 2))},
	} {
		for _, writes := range [][]api.Key{nil, {a, b, c, d}} {
			sameList(t, eval.Needs(api.Txn{Reads: x.reads, Writes: writes}, x.m), x.want)
			sameList(t, eval.Needs(api.Txn{Session: 1, Request: 1, Code: []byte{99}, Args: make([]int64, 9), Reads: x.reads, Writes: writes}, x.m), x.want)
		}
	}
}

// P14.3: Needs of each of the keys at all edges, by itself.
func TestNeedsOfEdges(t *testing.T) {
	var m []api.Pair
	for i, k := range rising() {
		m = append(m, pair(k, int64(i)))
	}
	for i, k := range rising() {
		sameList(t, eval.Needs(api.Txn{Reads: keys(k)}, m), m[i:i+1])
	}
	sameList(t, eval.Needs(api.Txn{Reads: rising()}, m), m)
	slices.Reverse(m)
	sameList(t, eval.Needs(api.Txn{Reads: rising()[:20]}, m), eval.Apply(m[len(m)-20:]))
}

// isSame fails the test, unless Same says so, whichever of them comes first.
func isSame(t *testing.T, x, y api.Outcome, want bool) {
	t.Helper()
	if eval.Same(x, y) != want || eval.Same(y, x) != want {
		t.Errorf("%+v, %+v: not %v", x, y, want)
	}
}

// P14.3, R4: Same goes by each field; empty and nil lists are the same.
func TestSame(t *testing.T) {
	full := func() api.Outcome {
		return api.Outcome{End: 3, Values: numbers(1, -2), Changes: changes(put(a, 1), gone(b)), Steps: 7}
	}
	isSame(t, full(), full(), true)
	isSame(t, api.Outcome{}, api.Outcome{}, true)
	isSame(t, api.Outcome{}, api.Outcome{Values: numbers(), Changes: changes()}, true)
	isSame(t, api.Outcome{Values: numbers()}, api.Outcome{Changes: changes()}, true)
	isSame(t, api.Outcome{Values: full().Values[:0], Changes: full().Changes[:0]}, api.Outcome{}, true)
	for _, do := range []func(o *api.Outcome){
		func(o *api.Outcome) { *o = api.Outcome{} },
		func(o *api.Outcome) { o.End = 4 },
		func(o *api.Outcome) { o.End = 0 },
		func(o *api.Outcome) { o.End = -3 },
		func(o *api.Outcome) { o.End = 1<<32 + 3 },
		func(o *api.Outcome) { o.Steps = 8 },
		func(o *api.Outcome) { o.Steps = 0 },
		func(o *api.Outcome) { o.Steps = 1<<32 + 7 },
		func(o *api.Outcome) { o.End, o.Steps = o.Steps, o.End },
		func(o *api.Outcome) { o.Values = nil },
		func(o *api.Outcome) { o.Values = o.Values[:1] },
		func(o *api.Outcome) { o.Values = append(o.Values, 0) },
		func(o *api.Outcome) { o.Values[0] = 0 },
		func(o *api.Outcome) { o.Values[1] = 2 },
		func(o *api.Outcome) { o.Values = numbers(-2, 1) },
		func(o *api.Outcome) { o.Changes = nil },
		func(o *api.Outcome) { o.Changes = o.Changes[:1] },
		func(o *api.Outcome) { o.Changes = append(o.Changes, api.Change{}) },
		func(o *api.Outcome) { o.Changes[0].Key.Table++ },
		func(o *api.Outcome) { o.Changes[0].Key.Row++ },
		func(o *api.Outcome) { o.Changes[0].Value++ },
		func(o *api.Outcome) { o.Changes[1].Value++ },
		func(o *api.Outcome) { o.Changes[0].Erase = true },
		func(o *api.Outcome) { o.Changes[1].Erase = false },
		func(o *api.Outcome) { slices.Reverse(o.Changes) },
	} {
		x := full()
		do(&x)
		isSame(t, x, full(), false)
		isSame(t, x, x, true)
	}
	isSame(t, api.Outcome{End: 1}, api.Outcome{}, false)
	isSame(t, api.Outcome{Steps: 1}, api.Outcome{}, false)
	isSame(t, api.Outcome{Values: numbers(0)}, api.Outcome{}, false)
	isSame(t, api.Outcome{Changes: changes(api.Change{})}, api.Outcome{}, false)
}
