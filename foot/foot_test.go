package foot_test

import (
	"math"
	"slices"
	"testing"

	"trivet/api"
	"trivet/code"
	"trivet/foot"
	"trivet/shard"
)

const (
	minTable, maxTable = math.MinInt32, math.MaxInt32
	minRow, maxRow     = math.MinInt64, math.MaxInt64
)

func same[T comparable](t *testing.T, got, want T) {
	t.Helper()
	if got != want {
		t.Error(got, "not", want)
	}
}

func sameList[T comparable](t *testing.T, got, want []T) {
	t.Helper()
	if !slices.Equal(got, want) {
		t.Error(got, "not", want)
	}
}

func key(table int32, row int64) api.Key { return api.Key{Table: table, Row: row} }

func keys(l ...api.Key) []api.Key { return l }

// a to d are keys, rising, whose partitions are 0 0 0 0 of one, 0 0 1 1 of two, 0 1 3 2 of four and 0 3 6 4 of eight.
var a, b, c, d = key(0, -1), key(0, 0), key(0, 1), key(1, 0)

// The partitions of the keys above are reckoned elsewhere (shard's own tests hold them against the words of its chapter).
func TestPartitionsOfKeys(t *testing.T) {
	for parts, want := range map[int][]int{1: {0, 0, 0, 0}, 2: {0, 0, 1, 1}, 4: {0, 1, 3, 2}, 8: {0, 3, 6, 4}} {
		for i, k := range keys(a, b, c, d) {
			same(t, shard.Part(k, parts), want[i])
		}
	}
}

// txn is a transaction that reads and writes those keys.
func txn(reads, writes []api.Key) api.Txn { return api.Txn{Reads: reads, Writes: writes} }

// reading and writing are transactions that do so alone.
func reading(l ...api.Key) api.Txn { return txn(l, nil) }
func writing(l ...api.Key) api.Txn { return txn(nil, l) }

// lists are those of the partitions, from the first one on.
func lists(l ...[]api.Key) [api.MaxParts][]api.Key {
	var out [api.MaxParts][]api.Key
	copy(out[:], l)
	return out
}

func footOf(reads, writes [api.MaxParts][]api.Key, parts, active []int) api.Foot {
	return api.Foot{Reads: reads, Writes: writes, Parts: parts, Active: active}
}

func places(l ...int) []int { return l }

// isFoot tells whether two footprints are the same, without asking foot.Same for it.
func isFoot(a, b api.Foot) bool {
	return slices.EqualFunc(a.Reads[:], b.Reads[:], slices.Equal) && slices.EqualFunc(a.Writes[:], b.Writes[:], slices.Equal) && slices.Equal(a.Parts, b.Parts) && slices.Equal(a.Active, b.Active)
}

func sameFoot(t *testing.T, got, want api.Foot) {
	t.Helper()
	if !isFoot(got, want) {
		t.Errorf("%+v, not %+v", got, want)
	}
}

// numbersOfParts are numbers of partitions, with how many each one counts as.
func numbersOfParts() map[int]int {
	m := map[int]int{math.MinInt: 1, math.MinInt32: 1, -8: 1, -1: 1, 0: 1, 9: 8, 16: 8, 1 << 32: 8, 1<<32 + 1: 8, math.MaxInt: 8}
	for parts := 1; parts <= api.MaxParts; parts++ {
		m[parts] = parts
	}
	return m
}

// edges is keys at all edges, rising.
func edges() []api.Key {
	var l []api.Key
	for _, table := range []int32{minTable, -256, -1, 0, 1, 255, maxTable} {
		for _, row := range []int64{minRow, math.MinInt32, -1, 0, 1, 1 << 32, maxRow} {
			l = append(l, key(table, row))
		}
	}
	return l
}

// The chapter's examples.
func TestExamples(t *testing.T) {
	sameList(t, foot.Locks(txn(keys(a, b), keys(b))), []api.Lock{{Key: a}, {Key: b, Excl: true}})
	sameList(t, foot.Levels(writing(a), writing(a), writing(a)), places(0, 1, 2))
	for parts := range numbersOfParts() {
		none := foot.Of(api.Txn{}, parts)
		sameList(t, none.Parts, places(0))
		sameList(t, none.Active, places(0))
	}
}

// P15.1: Of no keys, of Reads alone, of Writes alone, of one key in both, of one several times, and of keys in any order.
func TestOf(t *testing.T) {
	none := lists()
	for _, x := range []struct {
		t     api.Txn
		parts int
		want  api.Foot
	}{
		{api.Txn{}, 1, footOf(none, none, places(0), places(0))},
		{api.Txn{}, 4, footOf(none, none, places(0), places(0))},
		{api.Txn{}, 8, footOf(none, none, places(0), places(0))},
		{txn(keys(), keys()), 4, footOf(none, none, places(0), places(0))},
		{reading(b), 4, footOf(lists(nil, keys(b)), none, places(1), places(1))},
		{writing(b), 4, footOf(none, lists(nil, keys(b)), places(1), places(1))},
		{reading(a, b, c, d), 4, footOf(lists(keys(a), keys(b), keys(d), keys(c)), none, places(0, 1, 2, 3), places(0))},
		{reading(d, c), 4, footOf(lists(nil, nil, keys(d), keys(c)), none, places(2, 3), places(2))},
		{reading(c, b), 8, footOf(lists(nil, nil, nil, keys(b), nil, nil, keys(c)), none, places(3, 6), places(3))},
		{reading(c), 8, footOf(lists(nil, nil, nil, nil, nil, nil, keys(c)), none, places(6), places(6))},
		{writing(a, b, c, d), 4, footOf(none, lists(keys(a), keys(b), keys(d), keys(c)), places(0, 1, 2, 3), places(0, 1, 2, 3))},
		{writing(d, c), 4, footOf(none, lists(nil, nil, keys(d), keys(c)), places(2, 3), places(2, 3))},
		{txn(keys(b), keys(b)), 4, footOf(lists(nil, keys(b)), lists(nil, keys(b)), places(1), places(1))},
		{txn(keys(a, b), keys(b)), 4, footOf(lists(keys(a), keys(b)), lists(nil, keys(b)), places(0, 1), places(1))},
		{txn(keys(a), keys(c)), 4, footOf(lists(keys(a)), lists(nil, nil, nil, keys(c)), places(0, 3), places(3))},
		{txn(keys(c), keys(a)), 4, footOf(lists(nil, nil, nil, keys(c)), lists(keys(a)), places(0, 3), places(0))},
		{txn(keys(a, d), keys(b, c)), 4, footOf(lists(keys(a), nil, keys(d)), lists(nil, keys(b), nil, keys(c)), places(0, 1, 2, 3), places(1, 3))},
		{txn(keys(c, a), keys(d, b)), 4, footOf(lists(keys(a), nil, nil, keys(c)), lists(nil, keys(b), keys(d)), places(0, 1, 2, 3), places(1, 2))},
		{txn(keys(b, b, b), keys(b, b)), 4, footOf(lists(nil, keys(b)), lists(nil, keys(b)), places(1), places(1))},
		{txn(keys(c, a, c, a), keys(d, d)), 4, footOf(lists(keys(a), nil, nil, keys(c)), lists(nil, nil, keys(d)), places(0, 2, 3), places(2))},
		{txn(keys(d, c, b, a), keys(c, d)), 1, footOf(lists(keys(a, b, c, d)), lists(keys(c, d)), places(0), places(0))},
		{txn(keys(d, c, b, a), keys(d, c)), 2, footOf(lists(keys(a, b), keys(c, d)), lists(nil, keys(c, d)), places(0, 1), places(1))},
		{txn(keys(d, c), keys(b, a, b)), 2, footOf(lists(nil, keys(c, d)), lists(keys(a, b)), places(0, 1), places(0))},
		{txn(keys(d, c, b, a), keys(d, c)), 8, footOf(lists(keys(a), nil, nil, keys(b), keys(d), nil, keys(c)), lists(nil, nil, nil, nil, keys(d), nil, keys(c)), places(0, 3, 4, 6), places(4, 6))},
	} {
		if got := foot.Of(x.t, x.parts); !isFoot(got, x.want) {
			t.Errorf("%+v, %d: %+v, not %+v", x.t, x.parts, got, x.want)
		}
	}
}

// P15.1: parts below 1 counts as 1, above MaxParts as that.
func TestOfNumbersOfParts(t *testing.T) {
	one := footOf(lists(keys(a, b, c)), lists(keys(c, d)), places(0), places(0))
	most := footOf(lists(keys(a), nil, nil, keys(b), nil, nil, keys(c)), lists(nil, nil, nil, nil, keys(d), nil, keys(c)), places(0, 3, 4, 6), places(4, 6))
	x := txn(keys(c, a, b), keys(d, c))
	for parts, counts := range numbersOfParts() {
		switch counts {
		case 1:
			sameFoot(t, foot.Of(x, parts), one)
		case api.MaxParts:
			sameFoot(t, foot.Of(x, parts), most)
		}
		sameFoot(t, foot.Of(x, parts), foot.Of(x, counts))
	}
}

// P15.1: of keys at all edges, Reads and Writes are what shard.Split says, of any number of partitions.
func TestOfEdges(t *testing.T) {
	l := edges()
	for parts, counts := range numbersOfParts() {
		for i := range l {
			reads, writes := l[:i], l[i:]
			f := foot.Of(txn(reads, writes), parts)
			same(t, slices.EqualFunc(f.Reads[:counts], shard.Split(parts, reads...), slices.Equal), true)
			same(t, slices.EqualFunc(f.Writes[:counts], shard.Split(parts, writes...), slices.Equal), true)
			for p := counts; p < api.MaxParts; p++ {
				same(t, len(f.Reads[p])+len(f.Writes[p]), 0)
			}
		}
	}
}

// P15.1: Parts and Active of all ways in which one key for each of four partitions may be read, written, both or neither.
func TestPartsAndActive(t *testing.T) {
	by := keys(a, b, d, c) // by partitions, of four
	for set := range 256 {
		var x api.Txn
		var parts, active []int
		for p := 3; p >= 0; p-- { // so that the keys fall
			reads, writes := set>>(2*p)&1 > 0, set>>(2*p+1)&1 > 0
			if reads {
				x.Reads = append(x.Reads, by[p], by[p])
			}
			if writes {
				x.Writes = append(x.Writes, by[p], by[p])
				active = append(active, p)
			}
			if reads || writes {
				parts = append(parts, p)
			}
		}
		slices.Reverse(parts)
		slices.Reverse(active)
		if len(parts) == 0 {
			parts = places(0)
		}
		if len(active) == 0 {
			active = parts[:1]
		}
		f := foot.Of(x, 4)
		sameList(t, f.Parts, parts)
		sameList(t, f.Active, active)
	}
}

// P15.1: MayRead and MayWrite of keys in both, in one, in none; a Table or a Row alone alike is another key.
func TestMay(t *testing.T) {
	x := txn(keys(key(1, 2), key(3, 4)), keys(key(3, 4), key(5, 6), key(5, 6)))
	for _, y := range []struct {
		k             api.Key
		reads, writes bool
	}{
		{key(3, 4), true, true},
		{key(1, 2), true, false},
		{key(5, 6), false, true},
		{key(0, 0), false, false},
		{key(1, 4), false, false},
		{key(1, 6), false, false},
		{key(3, 2), false, false},
		{key(3, 6), false, false},
		{key(5, 4), false, false},
		{key(5, 2), false, false},
		{key(2, 1), false, false},
		{key(6, 5), false, false},
		{key(-1, 2), false, false},
		{key(1, -2), false, false},
		{key(1, 2+1<<32), false, false},
		{key(minTable, minRow), false, false},
	} {
		same(t, foot.MayRead(x, y.k), y.reads)
		same(t, foot.MayWrite(x, y.k), y.writes)
		same(t, foot.MayRead(api.Txn{}, y.k), false)
		same(t, foot.MayWrite(api.Txn{}, y.k), false)
		same(t, foot.MayRead(writing(y.k), y.k), false)
		same(t, foot.MayWrite(reading(y.k), y.k), false)
	}
}

// P15.1: keys that do not rise are found as well, the last one and the first one too, at all edges.
func TestMayOfEdges(t *testing.T) {
	l := edges()
	half := len(l) / 2
	x := txn(slices.Clone(l[:half]), slices.Clone(l[half:]))
	slices.Reverse(x.Reads)
	slices.Reverse(x.Writes)
	for i, k := range l {
		same(t, foot.MayRead(x, k), i < half)
		same(t, foot.MayWrite(x, k), i >= half)
	}
}

// P15.2, R4: Same goes field by field, partition by partition; empty and nil lists are the same.
func TestSame(t *testing.T) {
	whole := func() api.Foot {
		var f api.Foot
		for p := range api.MaxParts {
			f.Reads[p], f.Writes[p] = keys(a, key(1, int64(p))), keys(b, key(2, int64(p)))
		}
		f.Parts, f.Active = places(0, 1, 2), places(1, 2)
		return f
	}
	differ := func(f api.Foot) {
		t.Helper()
		same(t, foot.Same(whole(), f), false)
		same(t, foot.Same(f, whole()), false)
		same(t, foot.Same(f, f), true)
	}
	same(t, foot.Same(whole(), whole()), true)
	for p := range api.MaxParts {
		for _, side := range []func(f *api.Foot) *[]api.Key{
			func(f *api.Foot) *[]api.Key { return &f.Reads[p] },
			func(f *api.Foot) *[]api.Key { return &f.Writes[p] },
		} {
			was := whole()
			l := *side(&was)
			for _, other := range [][]api.Key{nil, {}, l[:1], keys(l[0], l[1], l[1]), keys(l[1], l[0]), keys(l[0], key(l[1].Table, -7)), keys(l[0], key(-7, l[1].Row)), keys(key(9, 9), l[1])} {
				f := whole()
				*side(&f) = other
				differ(f)
			}
		}
	}
	for _, other := range [][]int{nil, {}, {0}, {0, 1}, {0, 1, 2, 3}, {0, 1, 3}, {2, 1, 0}, {1, 1, 2}, {2}, {1}} {
		f := whole()
		f.Parts = other
		differ(f)
		f = whole()
		f.Active = other
		differ(f)
	}
	f := whole()
	f.Reads, f.Writes = f.Writes, f.Reads
	differ(f)
	f = whole()
	f.Parts, f.Active = f.Active, f.Parts
	differ(f)
	f = whole()
	f.Reads[0], f.Reads[1] = f.Reads[1], f.Reads[0]
	differ(f)
}

// P15.2, R4: empty lists are nil ones to Same, at the top and within Reads and Writes, on either side.
func TestSameOfEmptyLists(t *testing.T) {
	empty := api.Foot{Parts: places(), Active: places()}
	for p := range api.MaxParts {
		empty.Reads[p], empty.Writes[p] = keys(), keys()
	}
	same(t, foot.Same(empty, api.Foot{}), true)
	same(t, foot.Same(api.Foot{}, empty), true)
	same(t, foot.Same(empty, empty), true)
	for p := range api.MaxParts {
		f := api.Foot{}
		f.Reads[p] = keys()
		same(t, foot.Same(f, api.Foot{}), true)
		f.Writes[p] = keys()
		same(t, foot.Same(api.Foot{}, f), true)
		f.Reads[p] = keys(key(0, 0))
		same(t, foot.Same(f, api.Foot{}), false)
		same(t, foot.Same(empty, f), false)
		f.Reads[p], f.Writes[p] = nil, keys(key(0, 0))
		same(t, foot.Same(api.Foot{}, f), false)
		same(t, foot.Same(f, empty), false)
	}
	same(t, foot.Same(api.Foot{Parts: places(0)}, api.Foot{}), false)
	same(t, foot.Same(api.Foot{}, api.Foot{Active: places(0)}), false)
}

// P15.1, P15.2: transactions that code.Check refuses are like others; nothing but their keys counts.
func TestRefused(t *testing.T) {
	x := api.Txn{Session: -5, Request: -1, Code: []byte{99, 1}, Args: make([]int64, 20), Reads: keys(c, a, c), Writes: keys(c, c)}
	same(t, code.Check(x) != api.OK, true)
	y := api.Txn{Session: 1, Request: 1, Reads: keys(a, c), Writes: keys(c)}
	same(t, code.Check(y), api.OK)
	for parts := range numbersOfParts() {
		sameFoot(t, foot.Of(x, parts), foot.Of(y, parts))
		for part := range api.MaxParts {
			sameList(t, foot.At(x, part, parts), foot.At(y, part, parts))
		}
	}
	sameList(t, foot.Locks(x), []api.Lock{{Key: a}, {Key: c, Excl: true}})
	for _, k := range keys(a, b, c, d) {
		same(t, foot.MayRead(x, k), foot.MayRead(y, k))
		same(t, foot.MayWrite(x, k), foot.MayWrite(y, k))
		for _, z := range []api.Txn{reading(k), writing(k)} {
			same(t, foot.Clash(x, z), foot.Clash(y, z))
			same(t, foot.Clash(z, x), foot.Clash(z, y))
		}
	}
	sameList(t, foot.Levels(x, x, reading(a), reading(c), x), places(0, 1, 0, 2, 3))
}
