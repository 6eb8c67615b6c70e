package shard_test

import (
	"math"
	"slices"
	"testing"

	"trivet/api"
	"trivet/shard"
)

const (
	minTable, maxTable = math.MinInt32, math.MaxInt32
	minRow, maxRow     = math.MinInt64, math.MaxInt64
)

func key(table int32, row int64) api.Key { return api.Key{Table: table, Row: row} }

func pair(table int32, row, value int64) api.Pair {
	return api.Pair{Key: key(table, row), Value: value}
}

// rising is keys at all edges, in their order.
func rising() []api.Key {
	var l []api.Key
	for _, table := range []int32{minTable, minTable + 1, -256, -2, -1, 0, 1, 255, 256, maxTable - 1, maxTable} {
		for _, row := range []int64{minRow, minRow + 1, minTable - 1, -256, -2, -1, 0, 1, 255, 256, maxTable + 1, 1 << 32, maxRow - 1, maxRow} {
			l = append(l, key(table, row))
		}
	}
	return l
}

func same[T comparable](t *testing.T, got, want T) {
	t.Helper()
	if got != want {
		t.Error(got, "not", want)
	}
}

func sameList[T comparable](t *testing.T, got, want []T) {
	t.Helper()
	if !slices.Equal(got, want) {
		t.Error(got, "not", want)
	}
}

// The chapter's examples.
func TestExamples(t *testing.T) {
	same(t, shard.Bytes(key(0, 0)), [12]byte{128, 0, 0, 0, 128, 0, 0, 0, 0, 0, 0, 0})
	for _, k := range rising() {
		same(t, shard.Part(k, 1), 0)
	}
	sameList(t, shard.Pairs(pair(3, 4, 1), pair(3, 4, 2)), []api.Pair{pair(3, 4, 2)})
}

// P11.1: Compare goes by Table, and by Row where the tables are the same.
func TestCompare(t *testing.T) {
	for _, x := range []struct {
		a, b api.Key
		want int
	}{
		{key(0, 0), key(0, 0), 0},
		{key(-3, -4), key(-3, -4), 0},
		{key(1, 5), key(2, 5), -1},
		{key(-1, 5), key(0, 5), -1},
		{key(-2, 5), key(-1, 5), -1},
		{key(5, 1), key(5, 2), -1},
		{key(5, -1), key(5, 0), -1},
		{key(5, -2), key(5, -1), -1},
		{key(1, 1), key(2, 2), -1},
		{key(1, 2), key(2, 1), -1},
		{key(-1, 5), key(0, -5), -1},
		{key(minTable, maxRow), key(maxTable, minRow), -1},
		{key(minTable, 0), key(maxTable, 0), -1},
		{key(0, minRow), key(0, maxRow), -1},
		{key(0, 0), key(0, 1<<32), -1},
		{key(0, 1<<31), key(0, 1<<32), -1},
		{key(minTable, minRow), key(minTable, minRow), 0},
		{key(maxTable, maxRow), key(maxTable, maxRow), 0},
	} {
		same(t, shard.Compare(x.a, x.b), x.want)
		same(t, shard.Compare(x.b, x.a), -x.want)
	}
}

// P11.1: of the keys at all edges each two have the order of their places.
func TestCompareEdges(t *testing.T) {
	l := rising()
	for i, a := range l {
		for j, b := range l {
			want := 0
			switch {
			case i < j:
				want = -1
			case i > j:
				want = 1
			}
			if got := shard.Compare(a, b); got != want {
				t.Fatal(a, b, got)
			}
		}
	}
}

// P11.1, R4: Keys tells each key once, rising.
func TestKeys(t *testing.T) {
	a, b, c, d := key(-1, 9), key(0, -9), key(0, 9), key(1, -9)
	for _, x := range []struct{ l, want []api.Key }{
		{nil, nil},
		{[]api.Key{}, nil},
		{[]api.Key{{}}, []api.Key{{}}},
		{[]api.Key{c}, []api.Key{c}},
		{[]api.Key{c, c}, []api.Key{c}},
		{[]api.Key{c, c, c, c}, []api.Key{c}},
		{[]api.Key{a, b}, []api.Key{a, b}},
		{[]api.Key{b, a}, []api.Key{a, b}},
		{[]api.Key{b, a, b}, []api.Key{a, b}},
		{[]api.Key{a, b, a}, []api.Key{a, b}},
		{[]api.Key{a, b, c, d}, []api.Key{a, b, c, d}},
		{[]api.Key{d, c, b, a}, []api.Key{a, b, c, d}},
		{[]api.Key{b, d, d, a, b, c, a, d, d}, []api.Key{a, b, c, d}},
	} {
		sameList(t, shard.Keys(x.l...), x.want)
	}
	l := rising()
	sameList(t, shard.Keys(l...), l)
	falling := slices.Clone(l)
	slices.Reverse(falling)
	sameList(t, shard.Keys(falling...), l)
	sameList(t, shard.Keys(append(falling, l...)...), l)
}

// P11.1, R4: Pairs tells each key once, rising, with the last Value that it has.
func TestPairs(t *testing.T) {
	for _, x := range []struct{ l, want []api.Pair }{
		{nil, nil},
		{[]api.Pair{}, nil},
		{[]api.Pair{{}}, []api.Pair{{}}},
		{[]api.Pair{pair(1, 2, 3)}, []api.Pair{pair(1, 2, 3)}},
		{[]api.Pair{pair(1, 2, 3), pair(1, 2, 3)}, []api.Pair{pair(1, 2, 3)}},
		{[]api.Pair{pair(1, 2, 3), pair(1, 2, 4)}, []api.Pair{pair(1, 2, 4)}},
		{[]api.Pair{pair(1, 2, 4), pair(1, 2, 3)}, []api.Pair{pair(1, 2, 3)}},
		{[]api.Pair{pair(1, 2, 3), pair(1, 2, 0)}, []api.Pair{pair(1, 2, 0)}},
		{[]api.Pair{pair(1, 2, 1), pair(1, 2, 3), pair(1, 2, 2)}, []api.Pair{pair(1, 2, 2)}},
		{[]api.Pair{pair(1, 2, 3), pair(1, 3, 4)}, []api.Pair{pair(1, 2, 3), pair(1, 3, 4)}},
		{[]api.Pair{pair(1, 3, 4), pair(1, 2, 3)}, []api.Pair{pair(1, 2, 3), pair(1, 3, 4)}},
		{[]api.Pair{pair(2, 1, 4), pair(1, 2, 9)}, []api.Pair{pair(1, 2, 9), pair(2, 1, 4)}},
		{[]api.Pair{pair(0, -5, 1), pair(-1, 5, 2), pair(0, -5, 3)}, []api.Pair{pair(-1, 5, 2), pair(0, -5, 3)}},
		{[]api.Pair{pair(0, -5, 1), pair(-1, 5, 2), pair(0, -5, 3), pair(-1, 5, 4)}, []api.Pair{pair(-1, 5, 4), pair(0, -5, 3)}},
		{[]api.Pair{pair(maxTable, maxRow, minRow), pair(minTable, minRow, maxRow)}, []api.Pair{pair(minTable, minRow, maxRow), pair(maxTable, maxRow, minRow)}},
	} {
		sameList(t, shard.Pairs(x.l...), x.want)
		sameList(t, shard.Merge(x.l), x.want)
	}
}

// P11.1, R4: Has goes by the whole key, and by all of the list, whatever its order.
func TestHas(t *testing.T) {
	a, b, c := key(-1, 9), key(0, -9), key(7, 7)
	for _, x := range []struct {
		l    []api.Key
		k    api.Key
		want bool
	}{
		{nil, a, false},
		{nil, api.Key{}, false},
		{[]api.Key{}, api.Key{}, false},
		{[]api.Key{{}}, api.Key{}, true},
		{[]api.Key{a}, a, true},
		{[]api.Key{a}, b, false},
		{[]api.Key{a}, key(-1, 8), false},
		{[]api.Key{a}, key(0, 9), false},
		{[]api.Key{a}, key(1, 9), false},
		{[]api.Key{a}, key(-1, -9), false},
		{[]api.Key{a, b, c}, a, true},
		{[]api.Key{a, b, c}, b, true},
		{[]api.Key{a, b, c}, c, true},
		{[]api.Key{a, b, c}, key(3, 3), false},
		{[]api.Key{c, b, a}, a, true},
		{[]api.Key{c, b, a}, b, true},
		{[]api.Key{c, b, a}, c, true},
		{[]api.Key{c, a, b}, a, true},
		{[]api.Key{c, a, b}, b, true},
		{[]api.Key{c, a, b}, c, true},
		{[]api.Key{c, c, a, a}, a, true},
		{[]api.Key{c, c, a, a}, b, false},
	} {
		if got := shard.Has(x.l, x.k); got != x.want {
			t.Error(x.l, x.k, got)
		}
	}
	l := rising()
	for i, k := range l {
		same(t, shard.Has(l, k), true)
		same(t, shard.Has(l[:i], k), false)
		same(t, shard.Has(l[i+1:], k), false)
	}
}

// P11.4, R4: Merge is Pairs of the lists, one behind the other: a later list's Value counts, and in it the last one.
func TestMerge(t *testing.T) {
	for _, x := range []struct {
		l    [][]api.Pair
		want []api.Pair
	}{
		{nil, nil},
		{[][]api.Pair{}, nil},
		{[][]api.Pair{nil}, nil},
		{[][]api.Pair{{}, nil, {}}, nil},
		{[][]api.Pair{{pair(1, 2, 3)}}, []api.Pair{pair(1, 2, 3)}},
		{[][]api.Pair{nil, {pair(1, 2, 3)}, {}}, []api.Pair{pair(1, 2, 3)}},
		{[][]api.Pair{{pair(1, 2, 3)}, {pair(1, 2, 4)}}, []api.Pair{pair(1, 2, 4)}},
		{[][]api.Pair{{pair(1, 2, 4)}, {pair(1, 2, 3)}}, []api.Pair{pair(1, 2, 3)}},
		{[][]api.Pair{{pair(1, 2, 4)}, {pair(1, 2, 0)}, nil}, []api.Pair{pair(1, 2, 0)}},
		{[][]api.Pair{{pair(1, 2, 1), pair(1, 2, 2)}, {pair(1, 2, 3), pair(1, 2, 4)}}, []api.Pair{pair(1, 2, 4)}},
		{[][]api.Pair{{pair(5, 5, 1)}, {pair(4, 4, 2)}, {pair(6, 6, 3)}}, []api.Pair{pair(4, 4, 2), pair(5, 5, 1), pair(6, 6, 3)}},
		{[][]api.Pair{{pair(5, 5, 1), pair(4, 4, 1)}, {pair(4, 4, 2), pair(6, 6, 2)}, {pair(6, 6, 3)}}, []api.Pair{pair(4, 4, 2), pair(5, 5, 1), pair(6, 6, 3)}},
		{[][]api.Pair{{pair(6, 6, 3)}, {pair(4, 4, 2), pair(6, 6, 2)}, {pair(5, 5, 1), pair(4, 4, 1)}}, []api.Pair{pair(4, 4, 1), pair(5, 5, 1), pair(6, 6, 2)}},
	} {
		sameList(t, shard.Merge(x.l...), x.want)
		sameList(t, shard.Pairs(slices.Concat(x.l...)...), x.want)
	}
}
