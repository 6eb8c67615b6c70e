package locks_test

import (
	"slices"
	"testing"

	"trivet/api"
	"trivet/locks"
)

// some is locks where 2, 1 and 6 are ready, 3, 4 and 5 wait.
func some(t *testing.T) *locks.Locks {
	t.Helper()
	l := locks.New()
	ask(t, l, 2, shared(b), alone(d))
	ask(t, l, 4, alone(b), alone(c))
	ask(t, l, 1, shared(a))
	ask(t, l, 3, alone(a), shared(b), shared(c), shared(d))
	ask(t, l, 5, shared(a), shared(e))
	ask(t, l, 6)
	return l
}

// P16.2: Ready of one that has not asked, that waits, that is ready, that was released, that asks again.
func TestReady(t *testing.T) {
	l := some(t)
	ready(t, l, 2, 1, 6)
	same(t, l.Ready(api.Id{Slot: 2, Place: 1}), false)
	same(t, l.Ready(api.Id{Slot: 2, Place: -1}), false)
	free(t, l, 2, 4)
	ready(t, l, 4, 1, 6)
	free(t, l, 4)
	ready(t, l, 1, 6)
	ask(t, l, 2, shared(a))
	ready(t, l, 1, 6)
	free(t, l, 1, 3)
	ready(t, l, 3, 6)
	free(t, l, 3, 5, 2)
	ready(t, l, 5, 6, 2)
}

// P16.2: All of none, of one, of many, in the order in which they asked, also of some that waited in between.
func TestAll(t *testing.T) {
	l := locks.New()
	sameList(t, slices.Collect(l.All()), nil)
	ask(t, l, 7, alone(a))
	sameList(t, slices.Collect(l.All()), ids(7))
	ask(t, l, 3, alone(a))
	ask(t, l, 9, alone(b))
	ask(t, l, 5)
	ask(t, l, 1, alone(c))
	sameList(t, slices.Collect(l.All()), ids(7, 9, 5, 1))
	free(t, l, 7, 3)
	sameList(t, slices.Collect(l.All()), ids(3, 9, 5, 1))
	free(t, l, 9)
	free(t, l, 1)
	sameList(t, slices.Collect(l.All()), ids(3, 5))
	free(t, l, 3)
	free(t, l, 5)
	sameList(t, slices.Collect(l.All()), nil)
}

// P16.2, R3: one who ranges over All may leave at any point, and may range over it again, also within itself.
func TestAllLeftAndDoneAgain(t *testing.T) {
	l := locks.New()
	for n := range 9 {
		ask(t, l, 8-n, shared(a))
	}
	s, whole := l.All(), ids(8, 7, 6, 5, 4, 3, 2, 1, 0)
	for many := 1; many <= len(whole); many++ {
		var got []api.Id
		for x := range s {
			got = append(got, x)
			if len(got) == many {
				break
			}
		}
		sameList(t, got, whole[:many])
		sameList(t, slices.Collect(s), whole)
	}
	for range s {
		sameList(t, slices.Collect(s), whole)
	}
	sameList(t, slices.Collect(s), whole)
}

// P16.2, R3: All tells who was ready when it was asked for, whatever was asked for or released since, also while it is ranged over.
func TestAllTellsWhatWasThere(t *testing.T) {
	changes := []func(l *locks.Locks){
		func(l *locks.Locks) { ask(t, l, 9) },
		func(l *locks.Locks) { free(t, l, 2, 4) },
		func(l *locks.Locks) { free(t, l, 1) },
		func(l *locks.Locks) { free(t, l, 6) },
		func(l *locks.Locks) { free(t, l, 3, 5) },
		func(l *locks.Locks) { free(t, l, 4); ask(t, l, 4); ask(t, l, 0) },
		func(l *locks.Locks) {
			for n := range 7 {
				l.Release(id(n))
			}
		},
	}
	for _, change := range changes {
		l := some(t)
		s := l.All()
		change(l)
		sameList(t, slices.Collect(s), ids(2, 1, 6))
		sameList(t, slices.Collect(s), ids(2, 1, 6))

		l = some(t)
		var got []api.Id
		s = l.All()
		for x := range s {
			if len(got) == 0 {
				change(l)
			}
			got = append(got, x)
		}
		sameList(t, got, ids(2, 1, 6))
		sameList(t, slices.Collect(s), ids(2, 1, 6))
	}
	l := locks.New()
	s := l.All()
	ask(t, l, 1)
	sameList(t, slices.Collect(s), nil)
	sameList(t, slices.Collect(l.All()), ids(1))
}

// P16.2: all may be released while one ranges over who was ready.
func TestReleaseWhileRanging(t *testing.T) {
	l := some(t)
	var got []api.Id
	for l.Len() > 0 {
		for x := range l.All() {
			_, err := l.Release(x)
			same(t, err, api.OK)
			got = append(got, x)
		}
	}
	sameList(t, got, ids(2, 1, 6, 4, 3, 5))
}

// P16.2: Waits of one that waits for no key, for one, for several, rising, and of one that has not asked, or was released.
func TestWaits(t *testing.T) {
	l := some(t)
	for n, want := range [][]api.Key{nil, nil, nil, keys(a, b, c, d), keys(b), keys(a), nil, nil} {
		sameList(t, l.Waits(id(n)), want)
	}
	sameList(t, l.Waits(api.Id{Slot: 3, Place: 1}), nil)
	free(t, l, 2, 4)
	sameList(t, l.Waits(id(3)), keys(a, b, c))
	sameList(t, l.Waits(id(2)), nil)
	free(t, l, 4)
	sameList(t, l.Waits(id(3)), keys(a))
	sameList(t, l.Waits(id(4)), nil)
	free(t, l, 1, 3)
	sameList(t, l.Waits(id(3)), nil)
	ask(t, l, 1, shared(a), alone(e))
	sameList(t, l.Waits(id(1)), keys(a, e))
	free(t, l, 3, 5)
	sameList(t, l.Waits(id(1)), keys(e))
}

// P16.2: Queue of a key that nobody asked for, that was left by all, of shared ones, of ones alone, and of such behind such.
func TestQueue(t *testing.T) {
	l := some(t)
	queue(t, l, a, "1s+ 3x 5s")
	queue(t, l, b, "2s+ 4x 3s")
	queue(t, l, c, "4x+ 3s")
	queue(t, l, d, "2x+ 3s")
	queue(t, l, e, "5s+")
	for _, k := range keys(key(0, 5), key(-1, -1), key(1, 5), key(0, minRow), key(maxTable, 0)) {
		queue(t, l, k, "")
	}
	sameList(t, l.Queue(b), []api.Waiter{{Txn: id(2), Held: true}, {Txn: id(4), Excl: true}, {Txn: id(3)}})
	sameList(t, l.Queue(d), []api.Waiter{{Txn: id(2), Excl: true, Held: true}, {Txn: id(3)}})
	free(t, l, 5)
	queue(t, l, e, "")
	free(t, l, 1)
	queue(t, l, a, "3x+")
	free(t, l, 3)
	queue(t, l, a, "")
	ask(t, l, 3, alone(a), alone(b))
	queue(t, l, a, "3x+")
	queue(t, l, b, "2s+ 4x 3x")
}

// P16.2: Held goes by all that stand ahead and by itself: of all queues of up to six, shared or alone.
func TestHeld(t *testing.T) {
	for many := range 7 {
		for set := range 1 << many {
			l := locks.New()
			var want []api.Waiter
			clear := true // all so far are shared
			for n := range many {
				lock := api.Lock{Key: a, Excl: set>>n&1 > 0}
				ask(t, l, n, lock)
				clear = clear && !lock.Excl
				want = append(want, api.Waiter{Txn: id(n), Excl: lock.Excl, Held: clear || n == 0})
			}
			sameList(t, l.Queue(a), want)
			for n, w := range want {
				same(t, l.Ready(id(n)), w.Held)
				same(t, len(l.Waits(id(n))) == 0, w.Held)
			}
		}
	}
}

// P16.2: Keys rise, whatever the order of asking, and those whose queue has become empty are not there any more.
func TestKeys(t *testing.T) {
	l := locks.New()
	ask(t, l, 1, alone(d))
	sameList(t, l.Keys(), keys(d))
	ask(t, l, 2, shared(b), shared(d))
	ask(t, l, 3, alone(a), alone(e))
	ask(t, l, 4)
	ask(t, l, 5, alone(c), shared(e))
	sameList(t, l.Keys(), keys(a, b, c, d, e))
	free(t, l, 3, 5)
	sameList(t, l.Keys(), keys(b, c, d, e))
	free(t, l, 1, 2)
	sameList(t, l.Keys(), keys(b, c, d, e))
	free(t, l, 2)
	sameList(t, l.Keys(), keys(c, e))
	ask(t, l, 2, alone(b), alone(c))
	sameList(t, l.Keys(), keys(b, c, e))
	free(t, l, 5, 2)
	sameList(t, l.Keys(), keys(b, c))
	free(t, l, 2)
	sameList(t, l.Keys(), nil)
	same(t, l.Len(), 1)
}

// P16.2: Keys rise by Table, then Row, of keys at all edges, each asked for by two.
func TestKeysOfEdges(t *testing.T) {
	l, of := locks.New(), edges()
	for i := range of {
		n := i * 31 % len(of) // in another order
		ask(t, l, 2*n, shared(of[n]))
		ask(t, l, 2*n+1, shared(of[n]))
	}
	sameList(t, l.Keys(), of)
	for n := range of {
		free(t, l, 2*n)
		sameList(t, l.Keys(), of[n:])
		free(t, l, 2*n+1)
		sameList(t, l.Keys(), of[n+1:])
	}
}

// P16.2: Len is how many have asked and were not released, ready or not, with locks or without.
func TestLen(t *testing.T) {
	l := locks.New()
	for n := range 9 {
		same(t, l.Len(), n)
		if n%3 == 0 {
			ask(t, l, n)
		} else {
			ask(t, l, n, alone(a), alone(b))
		}
	}
	l.Request(id(3))
	l.Request(id(10), alone(b), alone(a))
	l.Release(id(11))
	same(t, l.Len(), 9)
	for i, n := range []int{8, 0, 4, 1, 7, 2, 6, 5, 3} {
		l.Release(id(n))
		same(t, l.Len(), 8-i)
	}
}

// P16.2: Clone has all of the same, of empty ones and of such as have a history, too.
func TestClone(t *testing.T) {
	same(t, looked(locks.New().Clone()), looked(locks.New()))
	l := some(t)
	same(t, looked(l.Clone()), looked(l))
	for _, n := range []int{4, 2, 6, 1, 3, 5} {
		_, err := l.Release(id(n))
		same(t, err, api.OK)
		other := l.Clone()
		same(t, other != l, true)
		same(t, looked(other), looked(l))
		same(t, looked(other.Clone()), looked(l))
	}
}

// P16.2, R3: what is done to locks is not seen of their clone, nor the other way round; what is done to both comes to the same.
func TestCloneGoesItsOwnWay(t *testing.T) {
	for name, do := range map[string]func(l *locks.Locks){
		"a new one":               func(l *locks.Locks) { ask(t, l, 9, shared(a), alone(e)) },
		"a new one without locks": func(l *locks.Locks) { ask(t, l, 9) },
		"a new one at a new key":  func(l *locks.Locks) { ask(t, l, 9, alone(key(0, 9))) },
		"the first":               func(l *locks.Locks) { free(t, l, 2, 4) },
		"one that waits":          func(l *locks.Locks) { free(t, l, 3, 5) },
		"the last":                func(l *locks.Locks) { free(t, l, 6) },
		"one that asks again":     func(l *locks.Locks) { free(t, l, 1); ask(t, l, 1, shared(a)) },
		"all": func(l *locks.Locks) {
			free(t, l, 2, 4)
			free(t, l, 4)
			free(t, l, 1, 3)
			free(t, l, 3, 5)
			free(t, l, 5)
			free(t, l, 6)
		},
		"all, and others": func(l *locks.Locks) {
			free(t, l, 5)
			free(t, l, 3)
			free(t, l, 2, 4)
			free(t, l, 6)
			ask(t, l, 6, alone(b))
			free(t, l, 4, 6)
		},
		"one behind whom one waits": func(l *locks.Locks) { free(t, l, 4); ask(t, l, 4, alone(c)) },
	} {
		l := some(t)
		clone, was := l.Clone(), looked(l)
		do(l)
		if looked(l) == was || looked(clone) != was {
			t.Error(name, looked(l), looked(clone), was)
		}
		do(clone)
		same(t, looked(l), looked(clone))

		l = some(t)
		do(l.Clone())
		same(t, looked(l), was)
		do(l)
		same(t, looked(l), looked(clone))
		if t.Failed() {
			t.Fatal(name)
		}
	}
}

// P16.2: a clone tells those that are ready by a release in the order in which they had asked, those that asked it itself behind them.
func TestCloneKeepsTheOrder(t *testing.T) {
	l := locks.New()
	ask(t, l, 7)
	ask(t, l, 8, alone(a), alone(b), alone(c))
	ask(t, l, 5, shared(c))
	ask(t, l, 6, shared(b))
	free(t, l, 7)
	other := l.Clone()
	for _, x := range []*locks.Locks{l, other} {
		ask(t, x, 4, shared(b))
		ask(t, x, 3, shared(a))
		ready(t, x, 8)
		free(t, x, 8, 5, 6, 4, 3)
	}
}
