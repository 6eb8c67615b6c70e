package locks_test

import (
	"testing"

	"trivet/api"
	"trivet/locks"
)

// none releases one that has not asked, and looks whether that changed anything.
func none(t *testing.T, l *locks.Locks, n int) {
	t.Helper()
	was := looked(l)
	got, err := l.Release(id(n))
	if len(got) > 0 || err != api.ErrNone {
		t.Error("Release of", n, got, err)
	}
	if now := looked(l); now != was {
		t.Error("Release of", n, "has changed something:", was, now)
	}
}

// P16.1, R2: Release of one that has not asked, or was released before, or was refused, is ErrNone, and changes nothing.
func TestReleaseOfNone(t *testing.T) {
	l := locks.New()
	none(t, l, 0)
	ask(t, l, 1, alone(a))
	ask(t, l, 2, shared(a), alone(b))
	none(t, l, 0)
	same(t, l.Request(id(3), alone(b), alone(a)), api.ErrArg)
	none(t, l, 3)
	free(t, l, 1, 2)
	none(t, l, 1)
	free(t, l, 2)
	none(t, l, 1)
	none(t, l, 2)
	ask(t, l, 2)
	none(t, l, 1)
	free(t, l, 2)
	none(t, l, 2)
	if got, err := l.Release(api.Id{Slot: 2, Place: 1}); len(got) > 0 || err != api.ErrNone {
		t.Error(got, err)
	}
}

// P16.1: one without locks is released, and makes none ready.
func TestReleaseWithoutLocks(t *testing.T) {
	l := locks.New()
	ask(t, l, 1)
	ask(t, l, 2, alone(a))
	ask(t, l, 3, alone(a))
	free(t, l, 1)
	ready(t, l, 2)
	same(t, l.Len(), 2)
}

// P16.1: the first, one in the middle and the last of a queue of such as want it alone are released, each of them or all; only the first makes another one ready.
func TestReleaseOfAnyPlace(t *testing.T) {
	of := func(t *testing.T) *locks.Locks {
		l := locks.New()
		for n := range 5 {
			ask(t, l, n, alone(a))
		}
		return l
	}
	for _, x := range []struct {
		n     int
		ready []int
		queue string
	}{
		{0, []int{1}, "1x+ 2x 3x 4x"},
		{1, nil, "0x+ 2x 3x 4x"},
		{2, nil, "0x+ 1x 3x 4x"},
		{3, nil, "0x+ 1x 2x 4x"},
		{4, nil, "0x+ 1x 2x 3x"},
	} {
		l := of(t)
		free(t, l, x.n, x.ready...)
		queue(t, l, a, x.queue)
		ask(t, l, 9, alone(a))
		queue(t, l, a, x.queue+" 9x")
	}
	l := of(t)
	free(t, l, 2)
	free(t, l, 1)
	free(t, l, 0, 3)
	queue(t, l, a, "3x+ 4x")
	free(t, l, 4)
	queue(t, l, a, "3x+")
	free(t, l, 3)
	queue(t, l, a, "")
	ask(t, l, 1, alone(a))
	queue(t, l, a, "1x+")
}

// P16.1: of several shared ahead of one alone only the last that is released, whichever it is, makes it ready.
func TestReleaseOfSharedAheadOfOneAlone(t *testing.T) {
	for _, order := range [][]int{{1, 2, 3}, {1, 3, 2}, {2, 1, 3}, {2, 3, 1}, {3, 1, 2}, {3, 2, 1}} {
		l := locks.New()
		for n := 1; n <= 3; n++ {
			ask(t, l, n, shared(a))
		}
		ask(t, l, 4, alone(a))
		ask(t, l, 5, shared(a))
		queue(t, l, a, "1s+ 2s+ 3s+ 4x 5s")
		free(t, l, order[0])
		free(t, l, order[1])
		ready(t, l, order[2])
		free(t, l, order[2], 4)
		queue(t, l, a, "4x+ 5s")
		free(t, l, 4, 5)
	}
}

// P16.1: one alone ahead of several shared makes all of them ready, up to the next one that wants it alone.
func TestReleaseOfOneAloneAheadOfShared(t *testing.T) {
	l := locks.New()
	ask(t, l, 1, alone(a))
	for _, n := range []int{5, 2, 4} {
		ask(t, l, n, shared(a))
	}
	ask(t, l, 3, alone(a))
	ask(t, l, 6, shared(a))
	ready(t, l, 1)
	queue(t, l, a, "1x+ 5s 2s 4s 3x 6s")
	free(t, l, 1, 5, 2, 4)
	queue(t, l, a, "5s+ 2s+ 4s+ 3x 6s")
	ready(t, l, 5, 2, 4)
	free(t, l, 2)
	queue(t, l, a, "5s+ 4s+ 3x 6s")
}

// P16.1: one that waits still may be released: shared ones behind one alone that waited go on by that, if all ahead are shared, and not if not.
func TestReleaseOfOneThatWaits(t *testing.T) {
	l := locks.New()
	ask(t, l, 1, shared(a))
	ask(t, l, 2, alone(a))
	ask(t, l, 3, shared(a))
	ask(t, l, 4, shared(a))
	ask(t, l, 5, alone(a))
	ask(t, l, 6, shared(a))
	queue(t, l, a, "1s+ 2x 3s 4s 5x 6s")
	free(t, l, 2, 3, 4)
	queue(t, l, a, "1s+ 3s+ 4s+ 5x 6s")
	free(t, l, 6)
	free(t, l, 5)
	queue(t, l, a, "1s+ 3s+ 4s+")

	l = locks.New()
	ask(t, l, 1, alone(a))
	ask(t, l, 2, alone(a))
	ask(t, l, 3, shared(a))
	ask(t, l, 4, alone(a))
	ask(t, l, 5, shared(a))
	free(t, l, 2)
	queue(t, l, a, "1x+ 3s 4x 5s")
	free(t, l, 4)
	queue(t, l, a, "1x+ 3s 5s")
	free(t, l, 1, 3, 5)

	l = locks.New()
	ask(t, l, 1, shared(a))
	ask(t, l, 2, alone(a))
	ask(t, l, 3, alone(a))
	ask(t, l, 4, shared(a))
	free(t, l, 2)
	queue(t, l, a, "1s+ 3x 4s")
	free(t, l, 3, 4)
	queue(t, l, a, "1s+ 4s+")
}

// P16.1: one that has some of its locks and waits for others lets go of all of them.
func TestReleaseOfOneThatHasSome(t *testing.T) {
	l := locks.New()
	ask(t, l, 1, alone(b))
	ask(t, l, 2, alone(a), alone(b), alone(c))
	ask(t, l, 3, alone(a))
	ask(t, l, 4, alone(b))
	ask(t, l, 5, shared(c))
	ready(t, l, 1)
	free(t, l, 2, 3, 5)
	queue(t, l, a, "3x+")
	queue(t, l, b, "1x+ 4x")
	queue(t, l, c, "5s+")
	free(t, l, 1, 4)
}

// P16.1: those that are ready by a release are told in the order in which they had asked, and not in that of their keys, nor in that of their names.
func TestReleaseTellsInTheOrderOfAsking(t *testing.T) {
	l := locks.New()
	ask(t, l, 1, alone(a), alone(b), alone(c), alone(d))
	ask(t, l, 9, shared(d))
	ask(t, l, 8, alone(b))
	ask(t, l, 2, shared(d))
	ask(t, l, 5, shared(a), shared(c))
	ask(t, l, 7, alone(d))
	ask(t, l, 3, shared(c))
	ask(t, l, 4, shared(a))
	ask(t, l, 6, shared(b))
	free(t, l, 1, 9, 8, 2, 5, 3, 4)
	ready(t, l, 9, 8, 2, 5, 3, 4)
}

// P16.1: who was ready ahead of a release is not told, nor who got a lock by it and waits for another one still; each is told once, however many locks it got.
func TestReleaseTellsTheNewOnesAlone(t *testing.T) {
	l := locks.New()
	ask(t, l, 1, shared(a), alone(b), alone(c))
	ask(t, l, 2, shared(a))
	ask(t, l, 3, alone(d))
	ask(t, l, 4, shared(b), alone(d))
	ask(t, l, 5, shared(a), shared(b), alone(c))
	ask(t, l, 6)
	ready(t, l, 1, 2, 3, 6)
	free(t, l, 1, 5)
	sameList(t, l.Waits(id(4)), keys(d))
	ready(t, l, 2, 3, 5, 6)
	free(t, l, 3, 4)
	free(t, l, 2)
	free(t, l, 5)
	free(t, l, 4)
	free(t, l, 6)
	same(t, l.Len(), 0)
	sameList(t, l.Keys(), nil)
}
