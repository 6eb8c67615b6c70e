package foot_test

import (
	"math"
	"math/rand"
	"slices"
	"testing"

	"trivet/api"
	"trivet/code"
	"trivet/eval"
	"trivet/foot"
	"trivet/shard"
)

// below is the order of keys, as the document has it.
func below(a, b api.Key) bool {
	return a.Table < b.Table || a.Table == b.Table && a.Row < b.Row
}

// one tells whether k is one of l.
func one(l []api.Key, k api.Key) bool {
	for _, x := range l {
		if x.Table == k.Table && x.Row == k.Row {
			return true
		}
	}
	return false
}

// modelKeys puts keys one by one to where they belong, if they are not there.
func modelKeys(l []api.Key) []api.Key {
	var out []api.Key
	for _, k := range l {
		at := 0
		for at < len(out) && below(out[at], k) {
			at++
		}
		if !one(out, k) {
			out = slices.Insert(out, at, k)
		}
	}
	return out
}

func modelLocks(t api.Txn) []api.Lock {
	var l []api.Lock
	for _, k := range modelKeys(append(slices.Clone(t.Reads), t.Writes...)) {
		l = append(l, api.Lock{Key: k, Excl: one(t.Writes, k)})
	}
	return l
}

// modelCount is how many partitions a number of them counts as.
func modelCount(parts int) int {
	if parts < 1 {
		return 1
	}
	if parts > 8 {
		return 8
	}
	return parts
}

func modelOf(t api.Txn, parts int) api.Foot {
	var f api.Foot
	for p := range modelCount(parts) {
		for _, k := range modelKeys(t.Reads) {
			if shard.Part(k, parts) == p {
				f.Reads[p] = append(f.Reads[p], k)
			}
		}
		for _, k := range modelKeys(t.Writes) {
			if shard.Part(k, parts) == p {
				f.Writes[p] = append(f.Writes[p], k)
			}
		}
		if f.Reads[p] != nil || f.Writes[p] != nil {
			f.Parts = append(f.Parts, p)
		}
		if f.Writes[p] != nil {
			f.Active = append(f.Active, p)
		}
	}
	if f.Parts == nil {
		f.Parts = []int{0}
	}
	if f.Active == nil {
		f.Active = []int{f.Parts[0]}
	}
	return f
}

func modelAt(t api.Txn, part, parts int) []api.Lock {
	var l []api.Lock
	for _, x := range modelLocks(t) {
		if shard.Part(x.Key, parts) == part {
			l = append(l, x)
		}
	}
	return l
}

func modelClash(a, b api.Txn) bool {
	for _, x := range modelLocks(a) {
		for _, y := range modelLocks(b) {
			if x.Key == y.Key && (x.Excl || y.Excl) {
				return true
			}
		}
	}
	return false
}

func modelOrder(l []api.Txn) []couple {
	var out []couple
	for k := range l {
		for i := range k {
			if modelClash(l[i], l[k]) {
				out = append(out, couple{i, k})
			}
		}
	}
	return out
}

func modelLevels(l []api.Txn) []int {
	out := make([]int, len(l))
	for _, x := range modelOrder(l) {
		out[x.k] = max(out[x.k], out[x.i]+1)
	}
	return out
}

// drawnKey is a key out of some few, or one at an edge, or any at all.
func drawnKey(r *rand.Rand, few int) api.Key {
	switch r.Intn(16) {
	case 0:
		l := edges()
		return l[r.Intn(len(l))]
	case 1:
		return key(int32(r.Uint32()), int64(r.Uint64()))
	}
	return key(int32(r.Intn(2)), int64(r.Intn(few)-few/2))
}

// drawnKeys are up to so many keys, in any order, some more often than once.
func drawnKeys(r *rand.Rand, most, few int) []api.Key {
	var l []api.Key
	for range r.Intn(most + 1) {
		l = append(l, drawnKey(r, few))
	}
	return l
}

func drawnTxn(r *rand.Rand, few int) api.Txn {
	x := api.Txn{Session: int64(r.Intn(3) - 1), Request: int64(r.Intn(3))}
	switch r.Intn(8) {
	case 0:
		x.Reads = drawnKeys(r, 6, few)
	case 1:
		x.Writes = drawnKeys(r, 6, few)
	case 2:
		x.Reads = drawnKeys(r, 6, few)
		x.Writes = slices.Clone(x.Reads)
	default:
		x.Reads, x.Writes = drawnKeys(r, 4, few), drawnKeys(r, 2, few)
	}
	return x
}

func drawnTxns(r *rand.Rand, most, few int) []api.Txn {
	var l []api.Txn
	for range r.Intn(most + 1) {
		if len(l) > 0 && r.Intn(8) == 0 {
			l = append(l, l[r.Intn(len(l))])
		} else {
			l = append(l, drawnTxn(r, few))
		}
	}
	return l
}

func drawnNumber(r *rand.Rand) int {
	if r.Intn(4) > 0 {
		return r.Intn(11) - 1
	}
	return []int{math.MinInt, math.MinInt32, -8, 16, 1 << 32, math.MaxInt}[r.Intn(6)]
}

// P15.1, P15.4, R6: drawn transactions one by one, of any number of partitions, twice the same.
func TestDrawnFoots(t *testing.T) {
	for seed := range int64(20000) {
		r := rand.New(rand.NewSource(seed))
		x, parts, part, k := drawnTxn(r, 2+r.Intn(12)), drawnNumber(r), drawnNumber(r), drawnKey(r, 6)
		for range 2 {
			sameFoot(t, foot.Of(x, parts), modelOf(x, parts))
			sameList(t, foot.Locks(x), modelLocks(x))
			sameList(t, foot.At(x, part, parts), modelAt(x, part, parts))
			same(t, foot.MayRead(x, k), one(x.Reads, k))
			same(t, foot.MayWrite(x, k), one(x.Writes, k))
		}
		many := 0
		for p := range api.MaxParts {
			at := foot.At(x, p, parts)
			many += len(at)
			for _, y := range at {
				same(t, shard.Part(y.Key, parts), p)
				same(t, slices.Contains(foot.Locks(x), y), true)
			}
		}
		same(t, many, len(foot.Locks(x)))
		if t.Failed() {
			t.Fatal(seed, x, parts, part, k)
		}
	}
}

// P15.2: drawn transactions two by two: they clash as the words say, either way round; drawn footprints are the same if all their lists are.
func TestDrawnPairs(t *testing.T) {
	clash, like := 0, 0
	for seed := range int64(20000) {
		r := rand.New(rand.NewSource(seed))
		few, parts := 2+r.Intn(20), drawnNumber(r)
		x, y := drawnTxn(r, few), drawnTxn(r, few)
		if r.Intn(3) == 0 {
			y = txn(slices.Concat(x.Reads, x.Reads), slices.Clone(x.Writes))
			slices.Reverse(y.Reads)
		}
		want := modelClash(x, y)
		same(t, foot.Clash(x, y), want)
		same(t, foot.Clash(y, x), want)
		f, g := foot.Of(x, parts), foot.Of(y, parts)
		alike := isFoot(f, g)
		same(t, foot.Same(f, g), alike)
		same(t, foot.Same(g, f), alike)
		if t.Failed() {
			t.Fatal(seed, x, y, parts)
		}
		if want {
			clash++
		}
		if alike {
			like++
		}
	}
	if clash < 2000 || clash > 18000 || like < 2000 || like > 18000 {
		t.Error(clash, like, "are drawn too seldom, or too often")
	}
}

// P15.2, P15.3, R6: drawn lists of transactions: their pairs and their levels, twice the same; those of one level clash with none of it, each above 0 with one of the level below ahead of it.
func TestDrawnLists(t *testing.T) {
	deep := 0
	for seed := range int64(3000) {
		r := rand.New(rand.NewSource(seed))
		l := drawnTxns(r, 14, 2+r.Intn(30))
		s, levels := foot.Order(l...), foot.Levels(l...)
		for range 2 {
			sameList(t, told(s), modelOrder(l))
			sameList(t, foot.Levels(l...), modelLevels(l))
		}
		same(t, len(levels), len(l))
		for k, level := range levels {
			below := level == 0
			for i := range k {
				if foot.Clash(l[i], l[k]) {
					below = below || levels[i] == level-1
					same(t, levels[i] < level, true)
				}
			}
			same(t, below, true)
			deep = max(deep, level)
		}
		if t.Failed() {
			t.Fatal(seed, l)
		}
	}
	if deep < 5 {
		t.Error(deep, "is the greatest level that was drawn")
	}
}

// drawnWork is a transaction that may run: what it writes and answers hangs on all that it reads.
func drawnWork(t *testing.T, r *rand.Rand) api.Txn {
	x := api.Txn{Session: 1, Request: 1, Reads: modelKeys(drawnKeys(r, 3, 8)), Writes: modelKeys(drawnKeys(r, 2, 8))}
	l := []api.Instr{{Op: api.InConst, Imm: int64(r.Intn(9))}}
	for i := range x.Reads {
		l = append(l, api.Instr{Op: api.InLoad, A: 1, Imm: int64(i)}, api.Instr{Op: api.InConst, A: 2, Imm: 3}, api.Instr{Op: api.InMul, A: 0, B: 2}, api.Instr{Op: api.InAdd, A: 0, B: 1})
	}
	for i := range x.Writes {
		if r.Intn(4) == 0 {
			l = append(l, api.Instr{Op: api.InErase, Imm: int64(i)})
		} else {
			l = append(l, api.Instr{Op: api.InStore, A: 0, Imm: int64(i)})
		}
	}
	b, e := code.Encode(append(l, api.Instr{Op: api.InOut})...)
	same(t, e, api.OK)
	x.Code = b
	return x
}

// done is what transactions come to, one behind the other in that order of their places: an outcome for each place, and the map that is left.
func done(l []api.Txn, order []int) ([]api.Outcome, []api.Pair) {
	var m []api.Pair
	out := make([]api.Outcome, len(l))
	for _, i := range order {
		out[i] = eval.Run(l[i], eval.Needs(l[i], m), api.MaxFuel)
		m = eval.Apply(m, out[i].Changes...)
	}
	return out, m
}

// P15.3: done level by level, in any order within each, transactions come to what they come to in their own order.
func TestLevelsMayBeTurned(t *testing.T) {
	moved := 0
	for seed := range int64(3000) {
		r := rand.New(rand.NewSource(seed))
		var l []api.Txn
		var own []int
		for i := range 2 + r.Intn(10) {
			l, own = append(l, drawnWork(t, r)), append(own, i)
		}
		levels := foot.Levels(l...)
		turned := r.Perm(len(l))
		slices.SortStableFunc(turned, func(i, k int) int { return levels[i] - levels[k] })
		if !slices.Equal(own, turned) {
			moved++
		}
		want, left := done(l, own)
		got, rest := done(l, turned)
		if !slices.EqualFunc(got, want, eval.Same) || !slices.Equal(rest, left) {
			t.Fatal(seed, l, levels, turned)
		}
	}
	if moved < 1000 {
		t.Error(moved, "alone are done in another order")
	}
}
