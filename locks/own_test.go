package locks_test

import (
	"math"
	"math/rand"
	"runtime"
	"slices"
	"testing"
	"time"

	"trivet/api"
	"trivet/locks"
)

// spoil writes over a list, as far as its memory goes.
func spoil[T any](l []T, x T) {
	l = l[:cap(l)]
	for i := range l {
		l[i] = x
	}
}

// oddId, oddKey, oddLock and oddWaiter stand in memory that is nobody's to see.
var (
	oddId     = api.Id{Slot: 99, Place: 99}
	oddKey    = key(99, 99)
	oddLock   = alone(oddKey)
	oddWaiter = api.Waiter{Txn: oddId, Excl: true, Held: true}
)

// R3: the locks that are handed in stay as they were, also behind their list's end, whether they rise or not, and are not kept: what is done to them is not seen.
func TestWantStays(t *testing.T) {
	txns, of := few()
	for seed := range int64(500) {
		r := rand.New(rand.NewSource(seed))
		l, m := locks.New(), &model{}
		for _, txn := range txns {
			want := slices.Grow(drawnWant(r, of), 8)
			spoil(want[len(want):], oddLock)
			was := slices.Clone(want[:cap(want)])
			same(t, l.Request(txn, want...), m.request(txn, want))
			l.Request(txn, want...)
			sameList(t, want[:cap(want)], was)
			spoil(want, oddLock)
			same(t, look(l, txns, of), m.look(txns, of))
			if r.Intn(2) == 0 {
				l.Release(txn)
				m.release(txn)
			}
			sameList(t, want[:len(was)], slices.Repeat([]api.Lock{oddLock}, len(was)))
		}
		same(t, len(l.Queue(oddKey)), 0)
		if t.Failed() {
			t.Fatal(seed)
		}
	}
}

// R3: what Waits, Queue and Keys answer is nobody else's: what is done to it is seen neither by the locks, nor in another answer.
func TestAnswersAreNew(t *testing.T) {
	l := some(t)
	was, clone := looked(l), l.Clone()
	for range 2 {
		for n := range 8 {
			x, y := l.Waits(id(n)), l.Waits(id(n))
			want := slices.Clone(y)
			spoil(x, oddKey)
			_ = append(x, oddKey)
			sameList(t, y, want)
		}
		for _, k := range keys(a, b, c, d, e) {
			x, y := l.Queue(k), l.Queue(k)
			want := slices.Clone(y)
			spoil(x, oddWaiter)
			_ = append(x, oddWaiter)
			sameList(t, y, want)
		}
		x, y := l.Keys(), l.Keys()
		spoil(x, oddKey)
		_ = append(x, oddKey)
		sameList(t, y, keys(a, b, c, d, e))
		same(t, looked(l), was)
		same(t, looked(clone), was)
	}
}

// R3: what Release answers is nobody else's, and what is done since is not seen in it.
func TestReleasedAreNew(t *testing.T) {
	l := locks.New()
	ask(t, l, 1, alone(a))
	ask(t, l, 2, shared(a))
	ask(t, l, 3, shared(a))
	ask(t, l, 4, alone(a))
	ask(t, l, 5, shared(a))
	one, err := l.Release(id(1))
	same(t, err, api.OK)
	l.Release(id(2))
	l.Release(id(3))
	two, err := l.Release(id(4))
	same(t, err, api.OK)
	sameList(t, one, ids(2, 3))
	was := looked(l)
	spoil(one, oddId)
	_ = append(one, oddId)
	sameList(t, two, ids(5))
	spoil(two, oddId)
	same(t, looked(l), was)
	ready(t, l, 5)
}

// P16.2, R3: answers stay what they were, whatever is done to the locks behind them.
func TestAnswersDoNotFollow(t *testing.T) {
	l := some(t)
	waits, q, in := l.Waits(id(3)), l.Queue(b), l.Keys()
	for l.Len() > 0 {
		for x := range l.All() {
			l.Release(x)
		}
	}
	ask(t, l, 3, alone(key(0, 7)))
	sameList(t, waits, keys(a, b, c, d))
	same(t, text(q), "2s+ 4x 3s")
	sameList(t, in, keys(a, b, c, d, e))
}

// R3: two locks have nothing of each other.
func TestMadeApart(t *testing.T) {
	l, other := some(t), some(t)
	was := looked(l)
	free(t, other, 2, 4)
	ask(t, other, 9, alone(a))
	same(t, looked(l), was)
	same(t, locks.New().Len(), 0)
}

// P16.2, R4, R5: locks that no call made, nil or a zero struct, answer ErrMade, or nothing, and do nothing, whatever they are asked.
func TestLocksThatNoCallMade(t *testing.T) {
	var nobody *locks.Locks
	zero := &locks.Locks{}
	for _, l := range []*locks.Locks{nobody, zero} {
		for range 2 {
			for _, txn := range []api.Id{{}, id(1), {Slot: minRow, Place: math.MinInt}, {Slot: maxRow, Place: math.MaxInt}} {
				same(t, l.Request(txn), api.ErrMade)
				same(t, l.Request(txn, alone(a)), api.ErrMade)
				same(t, l.Request(txn, shared(a), alone(b)), api.ErrMade)
				same(t, l.Request(txn, alone(b), alone(a)), api.ErrMade)
				got, err := l.Release(txn)
				same(t, err, api.ErrMade)
				same(t, len(got), 0)
				same(t, l.Ready(txn), false)
				sameList(t, l.Waits(txn), nil)
			}
			for _, k := range keys(key(0, 0), a, b, key(minTable, minRow), key(maxTable, maxRow)) {
				same(t, len(l.Queue(k)), 0)
			}
			s := l.All()
			sameList(t, slices.Collect(s), nil)
			sameList(t, slices.Collect(s), nil)
			sameList(t, l.Keys(), nil)
			same(t, l.Len(), 0)
			same(t, l.Clone() == nil, true)
		}
	}
}

// R6: the same calls answer the same, whatever ran between, and whatever the order of a map is.
func TestSameAgain(t *testing.T) {
	txns, of := few()
	run := func(seed int64) []string {
		r := rand.New(rand.NewSource(seed))
		l := locks.New()
		var out []string
		for range 60 {
			txn := txns[r.Intn(len(txns))]
			if r.Intn(2) == 0 {
				l.Request(txn, rising(drawnWant(r, of))...)
			} else {
				l.Release(txn)
			}
			out = append(out, look(l, txns, of))
		}
		return out
	}
	want := run(1)
	for seed := range int64(30) {
		run(seed)
		sameList(t, run(1), want)
	}
}

// span is how long the quickest of some calls takes, each on what was made for it.
func span(make func() func()) time.Duration {
	least := time.Hour
	for range 4 {
		do := make()
		was := time.Now()
		do()
		least = min(least, time.Since(was))
	}
	return least
}

// grows fails the test, unless a call on 16 times as much takes well below 16 times 16 times as long: in one try of some, for the machine may be busy with something else.
func grows(t *testing.T, name string, n int, of func(n int) func()) {
	t.Helper()
	var x, y time.Duration
	for range 5 {
		x = span(func() func() { return of(n) })
		y = span(func() func() { return of(16 * n) })
		if y < 100*max(x, time.Microsecond) {
			return
		}
	}
	t.Error(name, x, y)
}

// wants is locks of so many keys.
func wants(n int, excl bool) []api.Lock {
	var l []api.Lock
	for i := range n {
		l = append(l, api.Lock{Key: key(0, int64(i)), Excl: excl})
	}
	return l
}

// inOne is locks where the first wants a key alone, and n behind it want it, too.
func inOne(n int, excl bool) *locks.Locks {
	l := locks.New()
	l.Request(id(0), alone(a))
	for i := range n {
		l.Request(id(1+i), api.Lock{Key: a, Excl: excl})
	}
	return l
}

// inMany is locks of n transactions, each of which wants eight keys out of n, not all of them shared.
func inMany(n int) *locks.Locks {
	l := locks.New()
	for i := range n {
		var want []api.Lock
		for j := range 8 {
			want = append(want, api.Lock{Key: key(int32(j), int64(i*(j+3)%n)), Excl: j == i%16})
		}
		l.Request(id(i), want...)
	}
	return l
}

// THE BOUND: each call takes no more than near the length of what it is handed, of what the locks hold, and of what it answers.
func TestSpans(t *testing.T) {
	for name, excl := range map[string]bool{"shared": false, "alone": true} {
		grows(t, "Request of many keys, "+name, 1<<9, func(n int) func() {
			l, want := locks.New(), wants(n, excl)
			return func() { l.Request(id(1), want...) }
		})
		grows(t, "Release of many keys, "+name, 1<<9, func(n int) func() {
			l, want := locks.New(), wants(n, excl)
			l.Request(id(1), want...)
			l.Request(id(2), want...)
			return func() { l.Release(id(1)) }
		})
		grows(t, "Waits for many keys, "+name, 1<<9, func(n int) func() {
			l := locks.New()
			l.Request(id(1), wants(n, true)...)
			l.Request(id(2), wants(n, excl)...)
			return func() { l.Waits(id(2)) }
		})
		for call, do := range map[string]func(l *locks.Locks, n int){
			"Request":               func(l *locks.Locks, n int) { l.Request(id(n+1), shared(a)) },
			"Release of the first":  func(l *locks.Locks, n int) { l.Release(id(0)) },
			"Release of the middle": func(l *locks.Locks, n int) { l.Release(id(n / 2)) },
			"Release of the last":   func(l *locks.Locks, n int) { l.Release(id(n)) },
			"Ready":                 func(l *locks.Locks, n int) { l.Ready(id(n)) },
			"All":                   func(l *locks.Locks, n int) { l.All() },
			"Queue":                 func(l *locks.Locks, n int) { l.Queue(a) },
			"Keys":                  func(l *locks.Locks, n int) { l.Keys() },
			"Clone":                 func(l *locks.Locks, n int) { l.Clone() },
		} {
			grows(t, call+" of many in one queue, "+name, 1<<9, func(n int) func() {
				l := inOne(n, excl)
				return func() { do(l, n) }
			})
		}
	}
	for call, do := range map[string]func(l *locks.Locks){
		"All":   func(l *locks.Locks) { l.All() },
		"Keys":  func(l *locks.Locks) { l.Keys() },
		"Clone": func(l *locks.Locks) { l.Clone() },
	} {
		grows(t, call+" of many queues", 1<<8, func(n int) func() {
			l := inMany(n)
			return func() { do(l) }
		})
	}
}

// THE BOUND: many that are ready at once by one release, each by several keys, take no more than near what is held.
func TestReleaseOfMany(t *testing.T) {
	grows(t, "Release that makes many ready", 1<<8, func(n int) func() {
		l, want := locks.New(), wants(8, true)
		l.Request(id(-1), want...)
		for i := range n {
			l.Request(id(i), wants(8, false)...)
		}
		return func() { l.Release(id(-1)) }
	})
	const many = 1 << 14
	l := inOne(many, false)
	got, err := l.Release(id(0))
	same(t, err, api.OK)
	same(t, len(got), many)
	for i, x := range got {
		if x != id(1+i) {
			t.Fatal(i, x)
		}
	}
}

// THE BOUND: a long queue is left one by one, from its beginning on, or from its end on, or from the middle on.
func TestLongQueues(t *testing.T) {
	const many = 1 << 16
	for name, step := range map[string]int{"from the beginning": 1, "from the end": many - 1, "mixed": 40503} {
		l := inOne(many-1, true)
		for i := range many {
			n := i * step % many
			if step == many-1 {
				n = many - 1 - i
			}
			got, err := l.Release(id(n))
			if err != api.OK || len(got) > 1 {
				t.Fatal(name, n, got, err)
			}
		}
		same(t, l.Len()+len(l.Keys()), 0)
	}
}

// heap is how many bytes there are that somebody holds.
func heap() int64 {
	runtime.GC()
	var m runtime.MemStats
	runtime.ReadMemStats(&m)
	return int64(m.HeapAlloc)
}

// THE BOUND: of transactions that were released, and of keys that all have left, nothing is kept, however many there were.
func TestNothingIsKept(t *testing.T) {
	l := locks.New()
	l.Request(id(-1), shared(key(1, 0)))
	was := heap()
	for i := range 1 << 16 {
		l.Request(id(i), alone(key(0, int64(i))), shared(key(1, 0)))
		l.Release(id(i))
	}
	if more := heap() - was; more > 1<<20 {
		t.Error(more, "bytes are kept")
	}
	sameList(t, l.Keys(), keys(key(1, 0)))
}
