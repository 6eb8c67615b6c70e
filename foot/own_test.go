package foot_test

import (
	"math/rand"
	"slices"
	"testing"
	"time"

	"trivet/api"
	"trivet/foot"
)

// spoil writes over a list, as far as its memory goes.
func spoil[T any](l []T, x T) {
	l = l[:cap(l)]
	for i := range l {
		l[i] = x
	}
}

// watched is a list with memory behind its end that has something in it, and what it was as far as that goes.
type watched[T comparable] struct{ now, was []T }

func watch[T comparable](l []T, x T) watched[T] {
	l = slices.Grow(slices.Clone(l), 16)
	spoil(l[len(l):], x)
	return watched[T]{l, slices.Clone(l[:cap(l)])}
}

func (w watched[T]) stays(t *testing.T) {
	t.Helper()
	sameList(t, w.now[:cap(w.now)], w.was)
}

// oddKey and oddLock stand in memory that is nobody's to see.
var oddKey, oddLock = key(99, 99), api.Lock{Key: key(99, 99), Excl: true}

// watchedTxn is a transaction whose keys are watched.
type watchedTxn struct{ reads, writes watched[api.Key] }

func watchTxn(x api.Txn) watchedTxn {
	return watchedTxn{watch(x.Reads, oddKey), watch(x.Writes, oddKey)}
}

func (w watchedTxn) now() api.Txn { return txn(w.reads.now, w.writes.now) }

func (w watchedTxn) stays(t *testing.T) {
	t.Helper()
	w.reads.stays(t)
	w.writes.stays(t)
}

// R3: a transaction's keys stay as they were, also behind their lists' ends, in whatever order they stand.
func TestTxnsStay(t *testing.T) {
	r := rand.New(rand.NewSource(1))
	for i := range 3000 {
		v, w := watchTxn(drawnTxn(r, 8)), watchTxn(drawnTxn(r, 8))
		if i == 0 {
			v = watchTxn(txn(keys(d, c, b, a, b), keys(c, c, a)))
		}
		x, y := v.now(), w.now()
		parts := drawnNumber(r)
		foot.Of(x, parts)
		foot.Locks(x)
		foot.At(x, r.Intn(8), parts)
		foot.Clash(x, y)
		foot.MayRead(x, a)
		foot.MayWrite(x, a)
		told(foot.Order(x, y, x))
		foot.Levels(y, x, y)
		v.stays(t)
		w.stays(t)
		if t.Failed() {
			t.Fatal(x, y, parts)
		}
	}
}

// R3: the list of transactions that is handed in stays as it was, also behind its end.
func TestListsOfTxnsStay(t *testing.T) {
	l := []api.Txn{writing(d, a), reading(c, a), {Session: 3}, writing(a)}
	rest := append(slices.Clone(l), writing(c), writing(b))
	whole := rest[:len(l)]
	for range 2 {
		sameList(t, foot.Levels(whole...), places(0, 1, 0, 2))
		sameList(t, told(foot.Order(whole...)), couples(couple{0, 1}, couple{0, 3}, couple{1, 3}))
		for i, x := range append(slices.Clone(l), writing(c), writing(b)) {
			same(t, rest[i].Session, x.Session)
			sameList(t, rest[i].Reads, x.Reads)
			sameList(t, rest[i].Writes, x.Writes)
		}
	}
}

// R3: footprints that are handed in to Same stay as they were, also behind their lists' ends.
func TestFootsStay(t *testing.T) {
	r := rand.New(rand.NewSource(2))
	for range 500 {
		f := foot.Of(drawnTxn(r, 8), r.Intn(10))
		var w []watched[api.Key]
		for p := range api.MaxParts {
			reads, writes := watch(f.Reads[p], oddKey), watch(f.Writes[p], oddKey)
			f.Reads[p], f.Writes[p] = reads.now, writes.now
			w = append(w, reads, writes)
		}
		parts, active := watch(f.Parts, 77), watch(f.Active, 77)
		f.Parts, f.Active = parts.now, active.now
		same(t, foot.Same(f, f), true)
		foot.Same(f, foot.Of(drawnTxn(r, 8), 4))
		for _, x := range w {
			x.stays(t)
		}
		parts.stays(t)
		active.stays(t)
	}
}

// listsOf are all lists of keys of a footprint.
func listsOf(f api.Foot) [][]api.Key { return slices.Concat(f.Reads[:], f.Writes[:]) }

// R3: each list of a footprint is nobody else's: not another one's of the same footprint, not an earlier answer's, not the transaction's.
func TestFootsAreApart(t *testing.T) {
	for _, x := range []api.Txn{{}, reading(b), writing(b), reading(a, b, c, d), writing(a, b, c, d), txn(keys(d, b, a), keys(b, c, b)), txn(edges(), edges())} {
		for parts := range api.MaxParts + 2 {
			want := modelOf(x, parts)
			for i := range 2 * api.MaxParts {
				f := foot.Of(x, parts)
				l := listsOf(f)[i]
				spoil(l, oddKey)
				_ = append(l, oddKey, oddKey)
				for j, other := range listsOf(f) {
					if j != i {
						sameList(t, other, listsOf(want)[j])
					}
				}
				sameList(t, f.Parts, want.Parts)
				sameList(t, f.Active, want.Active)
				sameFoot(t, foot.Of(x, parts), want)
			}
			f := foot.Of(x, parts)
			spoil(f.Parts, 77)
			_ = append(f.Parts, 77)
			sameList(t, f.Active, want.Active)
			spoil(f.Active, 66)
			_ = append(f.Active, 66)
			for _, p := range f.Parts {
				same(t, p, 77)
			}
			sameFoot(t, foot.Of(x, parts), want)
		}
	}
}

// R3: a footprint and its locks stay what they are, whatever is done to the transaction behind them.
func TestAnswersDoNotFollow(t *testing.T) {
	for _, x := range []api.Txn{reading(b), writing(b), reading(a, b, c), writing(a, b, c), txn(keys(a, b), keys(c, d)), txn(keys(d, b, a), keys(b, c, b))} {
		for parts := range api.MaxParts + 2 {
			y := txn(slices.Clone(x.Reads), slices.Clone(x.Writes))
			f, l, at := foot.Of(y, parts), foot.Locks(y), foot.At(y, 0, parts)
			spoil(y.Reads, oddKey)
			spoil(y.Writes, oddKey)
			sameFoot(t, f, modelOf(x, parts))
			sameList(t, l, modelLocks(x))
			sameList(t, at, modelAt(x, 0, parts))
			again, atAgain := foot.Locks(x), foot.At(x, 0, parts)
			spoil(l, oddLock)
			spoil(at, oddLock)
			sameList(t, again, modelLocks(x))
			sameList(t, atAgain, modelAt(x, 0, parts))
		}
	}
}

// R3: Levels are nobody else's.
func TestLevelsAreNew(t *testing.T) {
	l := []api.Txn{writing(a), writing(a), writing(b)}
	one, two := foot.Levels(l...), foot.Levels(l...)
	spoil(one, 77)
	sameList(t, two, places(0, 1, 0))
	sameList(t, foot.Levels(l...), places(0, 1, 0))
}

// R3: what Order answers tells what was there when it was asked for: neither another list nor other keys since are seen, also while it is ranged over.
func TestOrderTellsWhatWasThere(t *testing.T) {
	make3 := func() []api.Txn { return []api.Txn{writing(a), txn(keys(a), keys(b)), reading(b)} }
	want := couples(couple{0, 1}, couple{1, 2})
	for _, change := range []func(l []api.Txn){
		func(l []api.Txn) { l[1] = api.Txn{} },
		func(l []api.Txn) { l[2] = writing(a) },
		func(l []api.Txn) { l[0].Writes[0] = d },
		func(l []api.Txn) { l[1].Reads[0], l[1].Writes[0] = c, c },
		func(l []api.Txn) { l[2].Reads[0] = a },
		func(l []api.Txn) { l[1].Reads = nil },
	} {
		l := make3()
		s := foot.Order(l...)
		change(l)
		sameList(t, told(s), want)
		l = make3()
		s = foot.Order(l...)
		var got []couple
		for i, k := range s {
			got = append(got, couple{i, k})
			change(l)
		}
		sameList(t, got, want)
		sameList(t, told(s), want)
	}
}

// R4, R5: of zero structs and of nothing each call answers what the chapter says of no keys.
func TestOfNothing(t *testing.T) {
	for range 2 {
		sameFoot(t, foot.Of(api.Txn{}, 0), footOf(lists(), lists(), places(0), places(0)))
		same(t, len(foot.Locks(api.Txn{}))+len(foot.At(api.Txn{}, 0, 0))+len(foot.Levels())+len(told(foot.Order())), 0)
		same(t, foot.Clash(api.Txn{}, api.Txn{}), false)
		same(t, foot.MayRead(api.Txn{}, api.Key{}), false)
		same(t, foot.MayWrite(api.Txn{}, api.Key{}), false)
		same(t, foot.Same(api.Foot{}, api.Foot{}), true)
		same(t, foot.Same(api.Foot{}, foot.Of(api.Txn{}, 0)), false)
	}
}

// R6: the same calls answer the same, whatever ran between, and whatever the order of a map is.
func TestSameAgain(t *testing.T) {
	r := rand.New(rand.NewSource(3))
	var l []api.Txn
	for range 40 {
		l = append(l, drawnTxn(r, 40))
	}
	x := txn(edges(), edges()[10:20])
	f, held, pairs, levels := foot.Of(x, 8), foot.Locks(x), told(foot.Order(l...)), foot.Levels(l...)
	for range 100 {
		foot.Levels(drawnTxns(r, 10, 8)...)
		sameFoot(t, foot.Of(x, 8), f)
		sameList(t, foot.Locks(x), held)
		sameList(t, told(foot.Order(l...)), pairs)
		sameList(t, foot.Levels(l...), levels)
	}
}

// THE BOUND: of many keys each call takes no more than near their number.
func TestManyKeys(t *testing.T) {
	const many = 1 << 16
	var reads, writes []api.Key
	for i := range int64(many) {
		reads, writes = append(reads, key(int32(i*7919%5), i*104729%many)), append(writes, key(7, -i))
	}
	x, y := txn(reads, writes), txn(writes[1:], reads[:1])
	for _, z := range []api.Txn{x, y} {
		total := len(z.Reads) + len(z.Writes)
		same(t, len(foot.Locks(z)), total)
		f := foot.Of(z, api.MaxParts)
		here := 0
		for p := range api.MaxParts {
			here += len(f.Reads[p]) + len(f.Writes[p])
		}
		same(t, here, total)
		same(t, foot.Same(f, foot.Of(z, api.MaxParts)), true)
		same(t, foot.MayRead(z, key(8, 8)) || foot.MayWrite(z, key(8, 8)), false)
	}
	same(t, foot.Clash(reading(reads...), reading(reads...)), false)
	same(t, foot.Clash(writing(reads...), writing(writes...)), false)
	same(t, foot.Clash(x, y), true)
	sameList(t, told(foot.Order(x, y, x)), couples(couple{0, 1}, couple{0, 2}, couple{1, 2}))
	sameList(t, foot.Levels(x, y, x), places(0, 1, 2))
}

// THE BOUND: of many transactions that never clash Order takes no more than near their number, and so do Levels of many that all do, although their pairs are far more.
func TestManyTxns(t *testing.T) {
	const many = 1 << 17
	var apart, together, readers []api.Txn
	for i := range int64(many) {
		apart = append(apart, txn(keys(key(1, i), key(0, 0)), keys(key(2, i))))
		together = append(together, txn(keys(key(1, i)), keys(key(0, 0))))
		readers = append(readers, reading(key(0, 0), key(0, 1)))
	}
	sameList(t, told(foot.Order(apart...)), nil)
	sameList(t, told(foot.Order(readers...)), nil)
	for i, level := range foot.Levels(together...) {
		if level != i {
			t.Fatal(i, level)
		}
	}
	for _, level := range append(foot.Levels(apart...), foot.Levels(readers...)...) {
		if level != 0 {
			t.Fatal(level)
		}
	}
	n := 0
	for i, k := range foot.Order(together...) { // who leaves early does not wait for all of them
		if i >= k {
			t.Fatal(i, k)
		}
		if n++; n == 1000 {
			break
		}
	}
	readers[many-1] = writing(key(0, 1))
	same(t, len(told(foot.Order(readers...))), many-1)
	same(t, foot.Levels(readers...)[many-1], 1)
}

// THE BOUND: where all clash by many keys Order takes no more than near what it tells, and what it is handed.
func TestManyPairs(t *testing.T) {
	var l []api.Txn
	for range 1500 {
		l = append(l, txn(edges(), edges()))
	}
	n := 0
	for i, k := range foot.Order(l...) {
		if k*(k-1)/2+i != n {
			t.Fatal(i, k, n)
		}
		n++
	}
	same(t, n, 1500*1499/2)
}

// span is how long the quickest of some calls takes.
func span(do func()) time.Duration {
	least := time.Hour
	for range 4 {
		was := time.Now()
		do()
		least = min(least, time.Since(was))
	}
	return least
}

// grows fails the test, unless a call on 16 times as much takes well below 16 times 16 times as long: in one try of some, for the machine may be busy with something else.
func grows(t *testing.T, name string, n int, do func(n int) func()) {
	t.Helper()
	small, great := do(n), do(16*n)
	var a, b time.Duration
	for range 5 {
		a, b = span(small), span(great)
		if b < 100*a {
			return
		}
	}
	t.Error(name, a, b)
}

// manyKeys are so many keys, in no order, of their own table.
func manyKeys(table int32, n int) []api.Key {
	var l []api.Key
	for i := range int64(n) {
		l = append(l, key(table, i*104729%int64(n)))
	}
	return l
}

// manyTxns are so many transactions by their numbers.
func manyTxns(n int, of func(row int64) api.Txn) []api.Txn {
	var l []api.Txn
	for row := range int64(n) {
		l = append(l, of(row))
	}
	return l
}

// THE BOUND: calls on 16 times as many keys take about 16 times as long.
func TestLongerKeys(t *testing.T) {
	for name, do := range map[string]func(n int) func(){
		"Of": func(n int) func() {
			x := txn(manyKeys(1, n), manyKeys(2, n))
			return func() { foot.Of(x, 8) }
		},
		"Locks": func(n int) func() {
			x := txn(manyKeys(1, n), manyKeys(2, n))
			return func() { foot.Locks(x) }
		},
		"At": func(n int) func() {
			x := txn(manyKeys(1, n), manyKeys(1, n))
			return func() { foot.At(x, 0, 1) }
		},
		"Clash of readers": func(n int) func() {
			x, y := reading(manyKeys(1, n)...), reading(manyKeys(1, n)...)
			return func() { foot.Clash(x, y) }
		},
		"Clash of others": func(n int) func() {
			x, y := writing(manyKeys(1, n)...), writing(manyKeys(2, n)...)
			return func() { foot.Clash(x, y) }
		},
		"Order of two": func(n int) func() {
			x := txn(manyKeys(1, n), manyKeys(2, n))
			return func() { told(foot.Order(x, x)) }
		},
		"Levels of two": func(n int) func() {
			x := txn(manyKeys(1, n), manyKeys(2, n))
			return func() { foot.Levels(x, x) }
		},
	} {
		grows(t, name, 1<<11, do)
	}
}

// THE BOUND: calls on 16 times as many transactions, of which those that clash are few, or are not told, take about 16 times as long.
func TestLongerLists(t *testing.T) {
	apart := func(row int64) api.Txn { return txn(keys(key(0, 0), key(1, row)), keys(key(2, row))) }
	pairwise := func(row int64) api.Txn { return txn(keys(key(0, 0), key(1, row)), keys(key(1, row-1))) }
	together := func(row int64) api.Txn { return txn(keys(key(1, row)), keys(key(0, 0))) }
	order := func(of func(row int64) api.Txn) func(n int) func() {
		return func(n int) func() {
			l := manyTxns(n, of)
			return func() { told(foot.Order(l...)) }
		}
	}
	levels := func(of func(row int64) api.Txn) func(n int) func() {
		return func(n int) func() {
			l := manyTxns(n, of)
			return func() { foot.Levels(l...) }
		}
	}
	for name, do := range map[string]func(n int) func(){
		"Order apart":     order(apart),
		"Order pairwise":  order(pairwise),
		"Levels apart":    levels(apart),
		"Levels pairwise": levels(pairwise),
		"Levels together": levels(together),
		"Order left": func(n int) func() {
			l := manyTxns(n, together)
			return func() {
				for range foot.Order(l...) {
					break
				}
			}
		},
	} {
		grows(t, name, 1<<9, do)
	}
}
