package skip_test

import (
	"bytes"
	"math"
	"slices"
	"testing"

	"trivet/api"
	"trivet/shape"
	"trivet/skip"
)

// spoil writes over a list, as far as its memory goes.
func spoil[T any](l []T, x T) {
	l = l[:cap(l)]
	for i := range l {
		l[i] = x
	}
}

// R3: bytes that are handed in stay as they were, also behind their end, and are not kept.
func TestBytesStay(t *testing.T) {
	for _, b := range [][]byte{{0}, {2}, {1}, {0, 0}, shape.Num(nil, 2, 0, 1, 10, 3, 0, 2, 20, 3), shape.Num(nil, 2, 0, 2, 20, 3, 0, 1, 10, 3), shape.Num(nil, 1, 0, 1, 10, -3)} {
		b = slices.Grow(b, 40)
		spoil(b[len(b):], 99)
		was := slices.Clone(b[:cap(b)])
		s, e := skip.Parse(b, 9)
		sameList(t, b[:cap(b)], was)
		if e != api.OK {
			continue
		}
		want, form := all(s), s.Bytes()
		spoil(b, 77)
		has(t, s, want...)
		sameList(t, s.Bytes(), form)
	}
}

// R3: what Range and Bytes answer is nobody else's, also where it is asked for twice.
func TestAnswersAreNew(t *testing.T) {
	for _, seed := range seeds() {
		s := filled(t, seed, 3, 1, 2)
		want, form := cellsOf(1, 2, 3), slices.Clone(s.Bytes())
		for range 2 {
			l, other := s.Range(lowest(), key(9, 9)), s.Range(lowest(), key(9, 9))
			spoil(l, cell(5, 5, 5, 5))
			sameList(t, other, want)
			b, next := s.Bytes(), s.Bytes()
			spoil(b, 77)
			sameList(t, next, form)
			has(t, s, want...)
		}
	}
}

// R3: two stores that are made alike have nothing of each other, nor have those that are read of the same bytes.
func TestMadeApart(t *testing.T) {
	for name, do := range changes() {
		for _, seed := range seeds() {
			a := filled(t, seed, 1, 2, 3, 4, 5)
			b, e := skip.Parse(a.Bytes(), seed)
			same(t, e, api.OK)
			c := filled(t, seed, 1, 2, 3, 4, 5)
			do(a)
			has(t, b, cellsOf(1, 2, 3, 4, 5)...)
			has(t, c, cellsOf(1, 2, 3, 4, 5)...)
			if skip.Same(a, b) {
				t.Error(name, "did nothing")
			}
		}
	}
}

// levels is all levels of a store.
func levels(s *skip.Skip) [][]api.Key {
	var l [][]api.Key
	for level := range api.MaxHeight {
		l = append(l, slices.Collect(s.Level(level)))
	}
	return l
}

// alike tells whether two stores have the same keys of the same heights.
func alike(a, b *skip.Skip) bool {
	return skip.Same(a, b) && slices.EqualFunc(levels(a), levels(b), slices.Equal)
}

// P12.3, R3: a clone has all of the same, heights and those to come too; what is done to either is not seen of the other.
func TestClone(t *testing.T) {
	for name, do := range changes() {
		for _, seed := range seeds() {
			s := filled(t, seed, 3, 5, 1, 4, 2)
			was, high := all(s), levels(s)
			c := s.Clone()
			if c == s || !alike(c, s) {
				t.Fatal(name, seed, levels(c), high)
			}
			do(s)
			has(t, c, was...)
			same(t, slices.EqualFunc(levels(c), high, slices.Equal), true)
			same(t, skip.Same(s, c), false)
			do(c)
			same(t, alike(s, c), true)
			s = filled(t, seed, 3, 5, 1, 4, 2)
			do(s.Clone())
			has(t, s, was...)
			same(t, slices.EqualFunc(levels(s), high, slices.Equal), true)
		}
	}
}

// P12.3: the next heights of a clone are those of what it is a clone of, of an empty one too, and each draws its own ones.
func TestCloneDraws(t *testing.T) {
	for seed, want := range drawn() {
		for many := range want {
			s := skip.New(seed)
			for row := range many {
				put(t, s, cell(0, int64(row), 1, 1))
			}
			c := s.Clone()
			for row := many; row < len(want); row++ {
				k := key(0, int64(row))
				put(t, c, api.Cell{Key: k})
				same(t, heightOf(c, k), want[row])
				same(t, heightOf(s, k), 0)
			}
			for row := many; row < len(want); row++ {
				k := key(0, int64(row))
				put(t, s, api.Cell{Key: k})
				same(t, heightOf(s, k), want[row])
			}
			same(t, alike(s, c), true)
		}
	}
}

// P12.3: heights that the seed did not draw for the keys' order, as erased keys leave them, are a clone's too.
func TestCloneOfHistory(t *testing.T) {
	for _, seed := range seeds() {
		s := filled(t, seed, 9, 2, 7, 4, 5, 6, 3, 8, 1)
		for _, row := range []int64{9, 1, 5, 4} {
			same(t, s.Erase(key(0, row)), api.OK)
		}
		put(t, s, cellsOf(4, 9)...)
		c := s.Clone()
		same(t, alike(s, c), true)
		put(t, s, cellsOf(10, 0)...)
		put(t, c, cellsOf(10, 0)...)
		same(t, alike(s, c), true)
		for _, k := range rising() {
			same(t, s.Steps(k), c.Steps(k))
		}
	}
}

// P12.3, P12.4: Same goes by keys, values and slots, not by seeds and histories.
func TestSame(t *testing.T) {
	want := cellsOf(1, 2, 3)
	for _, a := range seeds() {
		s := filled(t, a, 1, 2, 3)
		same(t, skip.Same(s, s), true)
		same(t, skip.Same(skip.New(a), s), false)
		same(t, skip.Same(s, skip.New(a)), false)
		for _, b := range seeds() {
			same(t, skip.Same(skip.New(a), skip.New(b)), true)
			u := filled(t, b, 3, 9, 2, 0, 1)
			same(t, skip.Same(s, u), false)
			same(t, u.Erase(key(0, 9)), api.OK)
			same(t, skip.Same(s, u), false)
			same(t, u.Erase(key(0, 0)), api.OK)
			same(t, skip.Same(s, u), true)
			same(t, skip.Same(u, s), true)
			for i, c := range want {
				for _, x := range []api.Cell{{Key: c.Key, Value: c.Value + 1, Slot: c.Slot}, {Key: c.Key, Value: c.Value, Slot: c.Slot + 1}, {Key: c.Key}} {
					put(t, u, x)
					same(t, skip.Same(s, u), false)
					same(t, skip.Same(u, s), false)
				}
				put(t, u, want[i])
				same(t, skip.Same(s, u), true)
				same(t, u.Erase(c.Key), api.OK)
				same(t, skip.Same(s, u), false)
				same(t, skip.Same(u, s), false)
				put(t, u, api.Cell{Key: key(1, c.Key.Row), Value: c.Value, Slot: c.Slot}) // as many keys, one of them another
				same(t, skip.Same(s, u), false)
				same(t, u.Erase(key(1, c.Key.Row)), api.OK)
				put(t, u, c)
				same(t, skip.Same(s, u), true)
			}
		}
	}
}

// P12.3, R5: a store that no call made, nil or a zero struct, answers ErrMade, or nothing, and does nothing, whatever it is asked.
func TestStoreThatNoCallMade(t *testing.T) {
	var none *skip.Skip
	some := filled(t, 1, 1)
	for _, s := range []*skip.Skip{none, {}} {
		for range 2 {
			for _, k := range rising() {
				for _, slot := range []int64{-1, 0, maxTime, maxTime + 1} {
					same(t, s.Put(api.Cell{Key: k, Slot: slot}), api.ErrMade)
				}
				same(t, s.Erase(k), api.ErrMade)
				hasNot(t, s, k)
				same(t, s.Steps(k), 0)
				sameList(t, s.Range(lowest(), k), nil)
				sameList(t, s.Range(k, key(maxTable, maxRow)), nil)
				sameList(t, slices.Collect(s.From(k)), nil)
			}
			for _, n := range []int{math.MinInt, -1, 0, 1, api.MaxHeight - 1, api.MaxHeight, math.MaxInt} {
				sameList(t, slices.Collect(s.Level(n)), nil)
			}
			same(t, s.Len(), 0)
			same(t, s.Bytes() == nil, true)
			same(t, s.Clone() == nil, true)
			for _, u := range []*skip.Skip{none, {}, s, some, skip.New(0)} {
				same(t, skip.Same(s, u), false)
				same(t, skip.Same(u, s), false)
			}
		}
		same(t, s == nil || *s == skip.Skip{}, true)
	}
	has(t, some, cellsOf(1)...)
}

// THE BOUND: of long stores, also of such as have one level alone, each call takes no more than near their length; keys that come in order find their places at once.
func TestLongStores(t *testing.T) {
	for _, seed := range []uint64{0, 9} {
		s := full(t, seed)
		b := s.Bytes()
		u, e := skip.Parse(b, 0)
		same(t, e, api.OK)
		c := s.Clone()
		same(t, skip.Same(s, u), true)
		same(t, skip.Same(c, u), true)
		same(t, bytes.Equal(c.Bytes(), b), true)
		c = nil
		n := 0
		for range s.From(lowest()) {
			n++
		}
		for range s.Level(0) {
			n++
		}
		same(t, n+len(s.Range(lowest(), key(1, 0))), 3*api.MaxCells)
		top := key(0, 2*(api.MaxCells-1))
		same(t, u.Steps(top), api.MaxCells)
		for range 5 {
			u.Get(key(0, top.Row-2))
			u.Erase(top)
			put(t, u, api.Cell{Key: top})
		}
	}
	falling := skip.New(0)
	for row := range int64(1 << 18) {
		put(t, falling, cell(0, -row, 1, 2))
	}
	same(t, falling.Len(), 1<<18)
	for row := range int64(1 << 18) {
		same(t, falling.Erase(key(0, row-1<<18+1)), api.OK)
	}
	has(t, falling)
}

// THE BOUND: what was erased takes no memory in a call to come: a store goes on for ever.
func TestMemory(t *testing.T) {
	s := filled(t, 9, 1, 2, 3)
	for row := range int64(100000) {
		put(t, s, cell(1, row, 1, 1))
		same(t, s.Erase(key(1, row)), api.OK)
	}
	if n := testing.AllocsPerRun(100, func() {
		s.Put(cell(0, 2, 7, 7))
		s.Put(cell(0, 4, 7, 7))
		s.Erase(key(0, 4))
		s.Get(key(0, 3))
		s.Steps(key(0, 3))
		s.Clone()
	}); n > 40 {
		t.Error(n, "pieces of memory")
	}
	has(t, s, cell(0, 1, 10, 3), cell(0, 2, 7, 7), cell(0, 3, 30, 3))
}
