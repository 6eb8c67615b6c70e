package skip_test

import (
	"math"
	"slices"
	"testing"

	"trivet/api"
	"trivet/skip"
)

// heightOf is on how many levels a key stands.
func heightOf(s *skip.Skip, k api.Key) int {
	n := 0
	for level := range api.MaxHeight {
		for x := range s.Level(level) {
			if x == k {
				n++
				break
			}
		}
	}
	return n
}

// drawn are heights that were reckoned elsewhere by the chapter's words, one by one from a seed on.
func drawn() map[uint64][]int {
	return map[uint64][]int{
		0:                  {1, 1, 1, 1, 1, 1, 1, 1, 1, 1, 1, 1, 1, 1, 1, 1, 1, 1, 1, 1, 1, 1, 1, 1},
		1:                  {2, 2, 2, 2, 2, 2, 2, 2, 8, 1, 1, 2, 1, 3, 1, 3, 2, 2, 5, 1, 1, 2, 1, 2},
		2:                  {1, 3, 1, 1, 1, 3, 4, 1, 1, 2, 2, 1, 1, 2, 1, 2, 5, 2, 1, 1, 1, 3, 1, 1},
		3:                  {3, 1, 3, 4, 4, 1, 1, 2, 3, 3, 2, 2, 1, 1, 1, 1, 1, 1, 2, 1, 1, 1, 1, 2},
		9:                  {2, 2, 2, 2, 5, 1, 7, 4, 1, 1, 2, 2, 3, 1, 3, 1, 1, 1, 1, 2, 1, 4, 2, 4},
		42:                 {1, 7, 1, 1, 1, 3, 3, 1, 1, 2, 6, 1, 3, 2, 2, 5, 1, 2, 7, 1, 4, 1, 1, 1},
		12345:              {2, 2, 2, 1, 1, 3, 1, 3, 4, 1, 2, 1, 1, 4, 5, 2, 2, 1, 2, 1, 2, 2, 1, 4},
		1 << 32:            {1, 1, 1, 1, 1, 1, 1, 2, 2, 5, 2, 1, 2, 1, 1, 2, 5, 2, 3, 1, 1, 1, 1, 1},
		1 << 63:            {1, 1, 1, 1, 1, 1, 1, 1, 2, 1, 2, 1, 2, 1, 3, 1, 1, 1, 1, 1, 1, 4, 1, 1},
		math.MaxUint64:     {1, 8, 1, 3, 1, 1, 2, 1, 1, 1, 5, 1, 1, 3, 2, 1, 1, 3, 1, 1, 1, 2, 2, 1},
		0x9E3779B97F4A7C15: {2, 1, 1, 1, 1, 2, 5, 1, 3, 1, 2, 3, 2, 1, 6, 8, 1, 2, 5, 2, 2, 5, 1, 1},
		// Of these there are seven set bits, or eight, or more, one behind the other.
		254: {8, 2, 4, 2, 4, 2},
		508: {8, 1, 4, 3, 4, 1}, // eight
		632: {1, 1, 1, 8, 1, 2}, // nine
		63:  {8, 1, 4, 1, 4, 1}, // twelve
		253: {1, 3, 1, 1, 1, 8}, // thirteen
	}
}

// P12.1, P12.2: the keys' heights are those that the seed draws, in the order in which they are put, whatever their own one is.
func TestHeights(t *testing.T) {
	for seed, want := range drawn() {
		rise, fall, mix := skip.New(seed), skip.New(seed), skip.New(seed)
		for i, height := range want {
			n := int64(i)
			put(t, rise, cell(0, n, 1, 1))
			put(t, fall, cell(0, -n, 1, 1))
			put(t, mix, cell(int32(n%3), n*7%25, 1, 1))
			same(t, heightOf(rise, key(0, n)), height)
			same(t, heightOf(fall, key(0, -n)), height)
			same(t, heightOf(mix, key(int32(n%3), n*7%25)), height)
		}
		for i, height := range want {
			n := int64(i)
			same(t, heightOf(rise, key(0, n)), height)
			same(t, heightOf(fall, key(0, -n)), height)
			same(t, heightOf(mix, key(int32(n%3), n*7%25)), height)
		}
	}
}

// P12.1: a key that is put again keeps its height, and draws none: the next new one has the next height.
func TestHeightStays(t *testing.T) {
	for seed, want := range drawn() {
		s := skip.New(seed)
		for i, height := range want {
			k := key(0, int64(i))
			put(t, s, api.Cell{Key: k})
			for again := range int64(3) {
				put(t, s, api.Cell{Key: k, Value: again, Slot: again})
				put(t, s, cell(0, 0, again, again))
			}
			same(t, heightOf(s, k), height)
			same(t, heightOf(s, key(0, 0)), want[0])
		}
	}
}

// P12.1, R2: nothing but a Put of a new key draws a height.
func TestNothingElseDraws(t *testing.T) {
	for seed, want := range drawn() {
		s := skip.New(seed)
		for i, height := range want {
			k := key(0, int64(i))
			same(t, s.Put(api.Cell{Key: k, Slot: -1}), api.ErrArg)
			same(t, s.Put(api.Cell{Key: k, Slot: maxTime + 1}), api.ErrArg)
			same(t, s.Erase(k), api.ErrNone)
			s.Get(k)
			s.Steps(k)
			s.Range(lowest(), k)
			for range s.From(k) {
			}
			s.Bytes()
			skip.Same(s, s.Clone())
			put(t, s.Clone(), cell(5, 5, 5, 5))
			put(t, s, api.Cell{Key: k})
			same(t, heightOf(s, k), height)
		}
	}
}

// P12.1: a key that was erased is a new one when it is put again: it has the next height.
func TestHeightBehindErase(t *testing.T) {
	for seed, want := range drawn() {
		s := filled(t, seed, -1, 1)
		for _, height := range want[2:] {
			put(t, s, cell(0, 0, 1, 1))
			same(t, heightOf(s, key(0, 0)), height)
			same(t, s.Erase(key(0, 0)), api.OK)
			same(t, heightOf(s, key(0, 0)), 0)
		}
		same(t, heightOf(s, key(0, -1)), want[0])
		same(t, heightOf(s, key(0, 1)), want[1])
	}
}

// P12.2: Level tells the keys whose height is above n, rising; none of a level that there is not.
func TestLevel(t *testing.T) {
	s := filled(t, 9, 10, 20, 30, 40, 50, 60, 70, 80) // heights 2, 2, 2, 2, 5, 1, 7, 4
	for n, rows := range map[int][]int64{
		math.MinInt:       nil,
		math.MinInt32:     nil,
		-8:                nil,
		-1:                nil,
		0:                 {10, 20, 30, 40, 50, 60, 70, 80},
		1:                 {10, 20, 30, 40, 50, 70, 80},
		2:                 {50, 70, 80},
		3:                 {50, 70, 80},
		4:                 {50, 70},
		5:                 {70},
		6:                 {70},
		7:                 nil,
		api.MaxHeight:     nil,
		api.MaxHeight + 1: nil,
		1 << 32:           nil,
		math.MaxInt:       nil,
	} {
		var want []api.Key
		for _, row := range rows {
			want = append(want, key(0, row))
		}
		sameList(t, slices.Collect(s.Level(n)), want)
		sameList(t, slices.Collect(skip.New(9).Level(n)), nil)
	}
	s = filled(t, math.MaxUint64, 1, 2, 3) // heights 1, 8, 1
	sameList(t, slices.Collect(s.Level(api.MaxHeight-1)), []api.Key{key(0, 2)})
	sameList(t, slices.Collect(s.Level(api.MaxHeight)), nil)
}

// P12.2, P12.5: an erased key is gone from all of its levels, and the others stay on theirs.
func TestLevelsBehindErase(t *testing.T) {
	for seed := range drawn() {
		for gone := range int64(6) {
			s := filled(t, seed, 0, 1, 2, 3, 4, 5)
			var want [api.MaxHeight][]api.Key
			for level := range api.MaxHeight {
				want[level] = slices.DeleteFunc(slices.Collect(s.Level(level)), func(k api.Key) bool { return k.Row == gone })
			}
			same(t, s.Erase(key(0, gone)), api.OK)
			for level := range api.MaxHeight {
				sameList(t, slices.Collect(s.Level(level)), want[level])
			}
			put(t, s, cell(0, 9, 9, 9)) // behind all: also on the levels whose last one is gone
			high := heightOf(s, key(0, 9))
			for level := range high {
				sameList(t, slices.Collect(s.Level(level)), append(want[level], key(0, 9)))
			}
		}
	}
}
