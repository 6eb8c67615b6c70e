package foot_test

import (
	"math"
	"slices"
	"testing"

	"trivet/api"
	"trivet/foot"
	"trivet/shard"
)

func shared(k api.Key) api.Lock { return api.Lock{Key: k} }

func alone(k api.Key) api.Lock { return api.Lock{Key: k, Excl: true} }

func locks(l ...api.Lock) []api.Lock { return l }

// P15.1: Locks of no keys, of keys in one list or in both, several times, and in any order.
func TestLocks(t *testing.T) {
	for _, x := range []struct {
		t    api.Txn
		want []api.Lock
	}{
		{api.Txn{}, nil},
		{txn(keys(), keys()), nil},
		{reading(a), locks(shared(a))},
		{writing(a), locks(alone(a))},
		{txn(keys(a), keys(a)), locks(alone(a))},
		{reading(key(0, 0)), locks(api.Lock{})},
		{txn(keys(a), keys(b)), locks(shared(a), alone(b))},
		{txn(keys(b), keys(a)), locks(alone(a), shared(b))},
		{txn(keys(a, b), keys(b)), locks(shared(a), alone(b))},
		{txn(keys(a, b), keys(a)), locks(alone(a), shared(b))},
		{txn(keys(b), keys(a, b)), locks(alone(a), alone(b))},
		{txn(keys(a, c), keys(b, d)), locks(shared(a), alone(b), shared(c), alone(d))},
		{reading(a, a, a), locks(shared(a))},
		{writing(a, a, a), locks(alone(a))},
		{txn(keys(a, a), keys(a, a)), locks(alone(a))},
		{txn(keys(b, a, b, a), keys(c, c)), locks(shared(a), shared(b), alone(c))},
		{txn(keys(c, c), keys(b, a, b, a)), locks(alone(a), alone(b), shared(c))},
		{reading(d, c, b, a), locks(shared(a), shared(b), shared(c), shared(d))},
		{writing(d, c, b, a), locks(alone(a), alone(b), alone(c), alone(d))},
		{txn(keys(d, b), keys(c, a, d)), locks(alone(a), shared(b), alone(c), alone(d))},
	} {
		if got := foot.Locks(x.t); !slices.Equal(got, x.want) {
			t.Errorf("%+v: %v, not %v", x.t, got, x.want)
		}
	}
}

// P15.1: Locks rise by Table, then Row, with the least and the greatest ones, in whatever order the keys stand.
func TestLocksOfEdges(t *testing.T) {
	l := edges()
	var x api.Txn
	var want []api.Lock
	for i, k := range l {
		switch i % 3 {
		case 0:
			x.Reads = append(x.Reads, k)
		case 1:
			x.Writes = append(x.Writes, k)
		case 2:
			x.Reads, x.Writes = append(x.Reads, k), append(x.Writes, k)
		}
		want = append(want, api.Lock{Key: k, Excl: i%3 > 0})
	}
	sameList(t, foot.Locks(x), want)
	slices.Reverse(x.Reads)
	sameList(t, foot.Locks(x), want)
	slices.Reverse(x.Writes)
	sameList(t, foot.Locks(x), want)
	half := len(x.Reads) / 2
	x.Reads = slices.Concat(x.Reads[half:], x.Reads[:half], x.Reads)
	sameList(t, foot.Locks(x), want)
	least, greatest := key(minTable, minRow), key(maxTable, maxRow)
	sameList(t, foot.Locks(txn(keys(greatest), keys(least))), locks(alone(least), shared(greatest)))
	sameList(t, foot.Locks(txn(keys(key(minTable, maxRow), least), keys(greatest, key(maxTable, minRow)))), locks(shared(least), shared(key(minTable, maxRow)), alone(key(maxTable, minRow)), alone(greatest)))
}

// P15.1: a Table or a Row alone alike is another key, which is written for itself.
func TestLocksOfHalves(t *testing.T) {
	x := txn(keys(key(1, 2), key(2, 1)), keys(key(1, 1), key(2, 2)))
	sameList(t, foot.Locks(x), locks(alone(key(1, 1)), shared(key(1, 2)), shared(key(2, 1)), alone(key(2, 2))))
}

// P15.1: At is the locks of a partition, and of one that there is not, or that has none, nothing.
func TestAt(t *testing.T) {
	x := txn(keys(d, b, a, b), keys(c, b))
	all := locks(shared(a), alone(b), alone(c), shared(d))
	for _, y := range []struct {
		part, parts int
		want        []api.Lock
	}{
		{0, 1, all},
		{1, 1, nil},
		{2, 1, nil},
		{-1, 1, nil},
		{0, 2, all[:2]},
		{1, 2, all[2:]},
		{2, 2, nil},
		{3, 2, nil},
		{-1, 2, nil},
		{0, 4, all[:1]},
		{1, 4, all[1:2]},
		{2, 4, all[3:]},
		{3, 4, all[2:3]},
		{4, 4, nil},
		{5, 4, nil},
		{-1, 4, nil},
		{-4, 4, nil},
		{0, 8, all[:1]},
		{1, 8, nil},
		{2, 8, nil},
		{3, 8, all[1:2]},
		{4, 8, all[3:]},
		{5, 8, nil},
		{6, 8, all[2:3]},
		{7, 8, nil},
		{8, 8, nil},
		{9, 8, nil},
		{math.MinInt, 8, nil},
		{math.MaxInt, 8, nil},
		{3 + 1<<32, 8, nil},
	} {
		if got := foot.At(x, y.part, y.parts); !slices.Equal(got, y.want) {
			t.Errorf("%d, %d: %v, not %v", y.part, y.parts, got, y.want)
		}
	}
	for part := -1; part <= api.MaxParts; part++ {
		sameList(t, foot.At(api.Txn{}, part, 4), nil)
	}
}

// P15.1: parts below 1 counts as 1, above MaxParts as that; a partition beyond these has nothing, although it is below parts.
func TestAtNumbersOfParts(t *testing.T) {
	x := txn(edges(), edges()[20:30])
	for parts, counts := range numbersOfParts() {
		for _, part := range []int{math.MinInt, -9, -8, -1, 0, 1, 2, 3, 4, 5, 6, 7, 8, 9, 15, 16, 1 << 32, math.MaxInt} {
			got := foot.At(x, part, parts)
			sameList(t, got, foot.At(x, part, counts))
			if part < 0 || part >= counts {
				sameList(t, got, nil)
			}
		}
		sameList(t, foot.At(x, parts, parts), foot.At(x, parts, counts))
	}
	for _, parts := range []int{math.MinInt, -1, 0, 1} {
		sameList(t, foot.At(x, 0, parts), foot.Locks(x))
	}
}

// P15.4: a transaction's locks are those of its partitions, together, each at the one that shard.Part says, and there as Locks has it.
func TestLocksAreThoseOfPartitions(t *testing.T) {
	l := edges()
	for i := range l {
		x := txn(l[:i], l[i/2:])
		for parts := range numbersOfParts() {
			var all []api.Lock
			for _, part := range foot.Of(x, parts).Parts {
				at := foot.At(x, part, parts)
				for _, y := range at {
					same(t, shard.Part(y.Key, parts), part)
				}
				same(t, len(at) > 0, true)
				all = append(all, at...)
			}
			slices.SortFunc(all, func(a, b api.Lock) int { return shard.Compare(a.Key, b.Key) })
			sameList(t, all, foot.Locks(x))
		}
	}
}
