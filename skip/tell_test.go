package skip_test

import (
	"iter"
	"slices"
	"testing"

	"trivet/api"
	"trivet/skip"
)

// P12.2: From tells all from a key on, whether it is there or not, below all and above all.
func TestFrom(t *testing.T) {
	for _, seed := range seeds() {
		s := filled(t, seed, 40, 10, 30, 20)
		for _, x := range []struct {
			k    api.Key
			want []int64
		}{
			{lowest(), []int64{10, 20, 30, 40}},
			{key(-1, 100), []int64{10, 20, 30, 40}},
			{key(0, minRow), []int64{10, 20, 30, 40}},
			{key(0, 9), []int64{10, 20, 30, 40}},
			{key(0, 10), []int64{10, 20, 30, 40}},
			{key(0, 11), []int64{20, 30, 40}},
			{key(0, 20), []int64{20, 30, 40}},
			{key(0, 29), []int64{30, 40}},
			{key(0, 30), []int64{30, 40}},
			{key(0, 39), []int64{40}},
			{key(0, 40), []int64{40}},
			{key(0, 41), nil},
			{key(0, maxRow), nil},
			{key(1, minRow), nil},
			{key(1, 10), nil},
			{key(maxTable, maxRow), nil},
		} {
			sameList(t, slices.Collect(s.From(x.k)), cellsOf(x.want...))
			sameList(t, slices.Collect(skip.New(seed).From(x.k)), nil)
		}
	}
}

// P12.2, R4: Range tells all from from on and below to; nothing, if from is not below to.
func TestRange(t *testing.T) {
	for _, seed := range seeds() {
		s := filled(t, seed, 40, 10, 30, 20)
		for _, x := range []struct {
			from, to api.Key
			want     []int64
		}{
			{lowest(), lowest(), nil},
			{lowest(), key(0, 10), nil},
			{lowest(), key(0, 11), []int64{10}},
			{lowest(), key(maxTable, maxRow), []int64{10, 20, 30, 40}},
			{key(-1, 90), key(1, -90), []int64{10, 20, 30, 40}},
			{key(0, 10), key(0, 40), []int64{10, 20, 30}},
			{key(0, 10), key(0, 41), []int64{10, 20, 30, 40}},
			{key(0, 11), key(0, 40), []int64{20, 30}},
			{key(0, 15), key(0, 35), []int64{20, 30}},
			{key(0, 20), key(0, 21), []int64{20}},
			{key(0, 20), key(0, 30), []int64{20}},
			{key(0, 19), key(0, 20), nil},
			{key(0, 21), key(0, 29), nil},
			{key(0, 20), key(0, 20), nil},
			{key(0, 30), key(0, 20), nil},
			{key(0, 40), key(0, 10), nil},
			{key(0, 21), key(0, 20), nil},
			{key(0, 40), key(maxTable, maxRow), []int64{40}},
			{key(0, 41), key(maxTable, maxRow), nil},
			{key(1, 10), key(1, 40), nil},
			{key(-1, 10), key(-1, 40), nil},
			{key(1, 0), key(-1, 0), nil},
			{key(maxTable, maxRow), lowest(), nil},
			{key(maxTable, maxRow), key(maxTable, maxRow), nil},
		} {
			sameList(t, s.Range(x.from, x.to), cellsOf(x.want...))
			sameList(t, skip.New(seed).Range(x.from, x.to), nil)
		}
	}
}

// P12.2: the greatest key is from it on, and below no key.
func TestGreatestKey(t *testing.T) {
	most := key(maxTable, maxRow)
	for _, seed := range seeds() {
		s := skip.New(seed)
		put(t, s, api.Cell{Key: most, Value: 1}, api.Cell{Key: lowest(), Value: 2})
		sameList(t, slices.Collect(s.From(most)), []api.Cell{{Key: most, Value: 1}})
		sameList(t, s.Range(lowest(), most), []api.Cell{{Key: lowest(), Value: 2}})
		sameList(t, s.Range(most, most), nil)
	}
}

// P12.2: Steps of a store whose heights are known, counted by hand as the chapter's words go.
func TestSteps(t *testing.T) {
	flat := filled(t, 0, 10, 20, 30, 40, 50)               // heights all 1
	high := filled(t, 9, 10, 20, 30, 40, 50, 60, 70, 80)   // heights 2, 2, 2, 2, 5, 1, 7, 4
	odd := filled(t, 18446744073709551615, 20, 10, 30, 40) // heights 1, 8, 1, 3
	turned := filled(t, 9, 80, 70, 60, 50, 40, 30, 20, 10) // the same, from the last one on
	erased := filled(t, 9, 10, 20, 30, 40, 50, 60, 70, 80) // without 70, which alone stood on the levels 5 and 6
	same(t, erased.Erase(key(0, 70)), api.OK)
	for _, x := range []struct {
		s    *skip.Skip
		k    api.Key
		want int
	}{
		{flat, lowest(), 1},
		{flat, key(0, 9), 1},
		{flat, key(0, 10), 1},
		{flat, key(0, 11), 2},
		{flat, key(0, 30), 3},
		{flat, key(0, 35), 4},
		{flat, key(0, 50), 5},
		{flat, key(0, 51), 5}, // the end of a level is no step
		{flat, key(maxTable, maxRow), 5},
		{flat, key(-1, 35), 1},
		{flat, key(1, 35), 5},
		{high, lowest(), 7}, // the key 70 on levels 6 and 5, 50 on 4, 3 and 2, 10 on 1 and 0
		{high, key(0, 5), 7},
		{high, key(0, 10), 7},
		{high, key(0, 11), 8},  // on the level 1 the keys 10 and 20, on the level 0 the key 20
		{high, key(0, 50), 11}, // on the level 1 five keys, on the level 0 one
		{high, key(0, 60), 8},  // 70, 70, 50 and 70, 70, 70, 70, 60
		{high, key(0, 65), 9},
		{high, key(0, 70), 9},
		{high, key(0, 75), 5}, // 70, none, none, 80, 80, 80, 80
		{high, key(0, 80), 5},
		{high, key(0, 81), 2},
		{high, key(maxTable, maxRow), 2},
		{odd, key(0, 1), 8},
		{odd, key(0, 10), 8},
		{odd, key(0, 11), 4}, // 10 on the level 7, none on 6 to 3, 40 on 2 and 1, 20 on 0
		{odd, key(0, 20), 4},
		{odd, key(0, 30), 5},
		{odd, key(0, 40), 6}, // 10; 40 on 2 and 1; 20, 30 and 40 on 0
		{odd, key(0, 41), 2},
		{turned, key(0, 10), 7}, // 20 on levels 6, 5 and 4, 10 on 3, 2, 1 and 0
		{turned, key(0, 30), 6}, // 20 on the level 6; 40 on 4, 3, 2 and 1; 30 on 0
		{turned, key(0, 90), 6}, // 20, 40, 50, 60, 70 and 80
		{erased, key(0, 10), 5}, // 50 on 4, 3 and 2, 10 on 1 and 0
		{erased, key(0, 81), 2}, // 50 on 4, 80 on 3
		{erased, key(0, 70), 6}, // 50; 80 on 3, 2 and 1; 60 and 80 on 0
	} {
		if got := x.s.Steps(x.k); got != x.want {
			t.Error(slices.Collect(x.s.Level(0)), x.k, got, "not", x.want)
		}
	}
}

// changes is what may be done to a store of the keys 1 to 5.
func changes() map[string]func(s *skip.Skip) {
	return map[string]func(s *skip.Skip){
		"put ahead":       func(s *skip.Skip) { s.Put(cell(0, -1, 7, 7)) },
		"put between":     func(s *skip.Skip) { s.Put(cell(-1, 9, 7, 7)); s.Put(cell(0, 0, 7, 7)) },
		"put behind":      func(s *skip.Skip) { s.Put(cell(0, 9, 7, 7)) },
		"put again":       func(s *skip.Skip) { s.Put(cell(0, 1, 7, 7)); s.Put(cell(0, 3, 7, 7)); s.Put(cell(0, 5, 7, 7)) },
		"erase the first": func(s *skip.Skip) { s.Erase(key(0, 1)) },
		"erase one":       func(s *skip.Skip) { s.Erase(key(0, 3)) },
		"erase the last":  func(s *skip.Skip) { s.Erase(key(0, 5)) },
		"erase all": func(s *skip.Skip) {
			for row := range int64(6) {
				s.Erase(key(0, row))
			}
		},
		"erase and put": func(s *skip.Skip) { s.Erase(key(0, 2)); s.Put(cell(0, 2, 7, 7)) },
	}
}

// again fails the test, unless an iterator tells just this: left at each point, and again, also within itself.
func again[T comparable](t *testing.T, l iter.Seq[T], want []T) {
	t.Helper()
	for stop := range len(want) + 2 {
		var got []T
		for x := range l {
			if len(got) == stop {
				break
			}
			got = append(got, x)
		}
		sameList(t, got, want[:min(stop, len(want))])
	}
	for range l {
		sameList(t, slices.Collect(l), want)
	}
	sameList(t, slices.Collect(l), want)
}

// P12.2, R3: From and Level may be left at any point, and gone through again.
func TestAgain(t *testing.T) {
	for _, seed := range seeds() {
		s := filled(t, seed, 3, 5, 1, 4, 2)
		again(t, s.From(key(0, 2)), cellsOf(2, 3, 4, 5))
		again(t, s.From(key(0, 9)), nil)
		again(t, s.Level(0), []api.Key{key(0, 1), key(0, 2), key(0, 3), key(0, 4), key(0, 5)})
		for level := range api.MaxHeight {
			again(t, s.Level(level), slices.Collect(s.Level(level)))
		}
		again(t, s.Level(-1), nil)
	}
}

// P12.2, R3: From, Range and Level tell what was there when they were asked for, whatever is done behind that.
func TestAsTheyWere(t *testing.T) {
	for name, do := range changes() {
		for _, seed := range seeds() {
			s := filled(t, seed, 3, 5, 1, 4, 2)
			from, between := s.From(key(0, 2)), s.Range(key(0, 1), key(0, 5))
			var levels []iter.Seq[api.Key]
			var keys [][]api.Key
			for level := range api.MaxHeight {
				levels = append(levels, s.Level(level))
				keys = append(keys, slices.Collect(s.Level(level)))
			}
			was := all(s)
			do(s)
			if slices.Equal(all(s), was) {
				t.Error(name, "did nothing")
			}
			again(t, from, cellsOf(2, 3, 4, 5))
			sameList(t, between, cellsOf(1, 2, 3, 4))
			for level, l := range levels {
				again(t, l, keys[level])
			}
		}
	}
}

// P12.2, R3: the same, while they are gone through.
func TestWhileTheyGo(t *testing.T) {
	for name, do := range changes() {
		for _, seed := range seeds() {
			s := filled(t, seed, 3, 5, 1, 4, 2)
			var got []api.Cell
			for c := range s.From(key(0, 1)) {
				do(s)
				got = append(got, c)
			}
			if !slices.Equal(got, cellsOf(1, 2, 3, 4, 5)) {
				t.Error(name, got)
			}
			s = filled(t, seed, 3, 5, 1, 4, 2)
			for level := range api.MaxHeight {
				want := slices.Collect(s.Level(level))
				var keys []api.Key
				for k := range s.Level(level) {
					do(s)
					keys = append(keys, k)
				}
				if !slices.Equal(keys, want) {
					t.Error(name, keys)
				}
			}
		}
	}
}
