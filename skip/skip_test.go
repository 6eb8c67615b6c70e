package skip_test

import (
	"math"
	"slices"
	"testing"

	"trivet/api"
	"trivet/skip"
)

const (
	minTable, maxTable = math.MinInt32, math.MaxInt32
	minRow, maxRow     = math.MinInt64, math.MaxInt64
	maxTime            = int64(api.MaxTime)
)

func key(table int32, row int64) api.Key { return api.Key{Table: table, Row: row} }

func cell(table int32, row, value, slot int64) api.Cell {
	return api.Cell{Key: key(table, row), Value: value, Slot: slot}
}

// lowest is the key below all others: all of a store is from it on.
func lowest() api.Key { return key(minTable, minRow) }

// rising is keys at all edges, in their order.
func rising() []api.Key {
	var l []api.Key
	for _, table := range []int32{minTable, minTable + 1, -256, -1, 0, 1, 255, maxTable - 1, maxTable} {
		for _, row := range []int64{minRow, minRow + 1, minTable - 1, -256, -1, 0, 1, 255, maxTable + 1, 1 << 32, maxRow - 1, maxRow} {
			l = append(l, key(table, row))
		}
	}
	return l
}

// seeds are some from which heights are drawn; of 0 they are all 1, of the last ones some are MaxHeight.
func seeds() []uint64 {
	return []uint64{0, 1, 2, 3, 9, 42, 1 << 32, 1 << 63, math.MaxUint64, 63, 254}
}

func same[T comparable](t *testing.T, got, want T) {
	t.Helper()
	if got != want {
		t.Error(got, "not", want)
	}
}

func sameList[T comparable](t *testing.T, got, want []T) {
	t.Helper()
	if !slices.Equal(got, want) {
		t.Error(got, "not", want)
	}
}

// all is what all keys of a store have.
func all(s *skip.Skip) []api.Cell { return slices.Collect(s.From(lowest())) }

// put fails the test, unless all cells can be put.
func put(t *testing.T, s *skip.Skip, l ...api.Cell) {
	t.Helper()
	for _, c := range l {
		if e := s.Put(c); e != api.OK {
			t.Fatal("Put", c, e)
		}
	}
}

// filled is a store of the keys (0, row), put in this order, with the value 10 row and the slot 3.
func filled(t *testing.T, seed uint64, rows ...int64) *skip.Skip {
	t.Helper()
	s := skip.New(seed)
	put(t, s, cellsOf(rows...)...)
	return s
}

func cellsOf(rows ...int64) []api.Cell {
	var l []api.Cell
	for _, row := range rows {
		l = append(l, cell(0, row, 10*row, 3))
	}
	return l
}

// has fails the test, unless the store has just these cells, which are in their order, by all that tells of them.
func has(t *testing.T, s *skip.Skip, want ...api.Cell) {
	t.Helper()
	same(t, s.Len(), len(want))
	sameList(t, all(s), want)
	var keys []api.Key
	for _, c := range want {
		keys = append(keys, c.Key)
		got, ok := s.Get(c.Key)
		same(t, got, c)
		same(t, ok, true)
	}
	sameList(t, slices.Collect(s.Level(0)), keys)
}

// hasNot fails the test, if Get tells of a key.
func hasNot(t *testing.T, s *skip.Skip, l ...api.Key) {
	t.Helper()
	for _, k := range l {
		got, ok := s.Get(k)
		same(t, got, api.Cell{})
		same(t, ok, false)
	}
}

// The chapter's examples.
func TestExamples(t *testing.T) {
	s := skip.New(0)
	sameList(t, s.Bytes(), []byte{0})
	for row := range int64(1000) {
		put(t, s, cell(0, row*37%1000, row, 0))
		same(t, len(slices.Collect(s.Level(1))), 0)
	}
	same(t, len(slices.Collect(s.Level(0))), 1000)
	u, e := skip.Parse([]byte{2}, 0)
	same(t, u == nil, true)
	same(t, e, api.ErrEnds)
}

// P12.1: a new store has no keys, whatever the seed is.
func TestNew(t *testing.T) {
	for _, seed := range seeds() {
		s := skip.New(seed)
		if s == nil {
			t.Fatal("no store")
		}
		has(t, s)
		hasNot(t, s, rising()...)
		for _, k := range rising() {
			same(t, s.Erase(k), api.ErrNone)
			same(t, s.Steps(k), 0)
		}
		sameList(t, s.Bytes(), []byte{0})
	}
}

// P12.1, R2: which slots Put takes, of a key that is there and of one that is not; an error changes nothing.
func TestPutSlots(t *testing.T) {
	for _, x := range []struct {
		slot int64
		e    api.Errno
	}{
		{math.MinInt64, api.ErrArg},
		{-maxTime, api.ErrArg},
		{-1, api.ErrArg},
		{0, api.OK},
		{1, api.OK},
		{maxTime - 1, api.OK},
		{maxTime, api.OK},
		{maxTime + 1, api.ErrArg},
		{math.MaxInt64, api.ErrArg},
	} {
		for _, seed := range seeds() {
			for _, row := range []int64{0, 1, 2, 3, 4, 5, 6} { // those that are odd are there
				s := filled(t, seed, 1, 3, 5)
				was := all(s)
				c := cell(0, row, 77, x.slot)
				same(t, s.Put(c), x.e)
				if x.e == api.OK {
					got, ok := s.Get(c.Key)
					same(t, got, c)
					same(t, ok, true)
				} else {
					has(t, s, was...)
				}
			}
		}
	}
}

// P12.1: any Value may be put.
func TestPutValues(t *testing.T) {
	s := skip.New(5)
	var want []api.Cell
	for i, v := range []int64{math.MinInt64, math.MinInt64 + 1, -256, -1, 0, 1, 255, math.MaxInt64 - 1, math.MaxInt64} {
		want = append(want, cell(1, int64(i), v, int64(i)))
	}
	put(t, s, want...)
	has(t, s, want...)
}

// P12.1: keys at all edges, put in all kinds of orders, stand in theirs.
func TestPutOrders(t *testing.T) {
	l := rising()
	var want []api.Cell
	for i, k := range l {
		want = append(want, api.Cell{Key: k, Value: int64(-i), Slot: int64(i)})
	}
	falling := slices.Clone(want)
	slices.Reverse(falling)
	var mixed []api.Cell
	for i := range want {
		mixed = append(mixed, want[i*35%len(want)])
	}
	for _, seed := range seeds() {
		for _, order := range [][]api.Cell{want, falling, mixed} {
			s := skip.New(seed)
			hasNot(t, s, l...)
			put(t, s, order...)
			has(t, s, want...)
		}
	}
}

// P12.1: a key that is there has the new Value and Slot, whichever of them it is; the others stay.
func TestPutAgain(t *testing.T) {
	for _, seed := range seeds() {
		for i := range 5 {
			s := filled(t, seed, 50, 20, 40, 10, 30)
			want := all(s)
			for _, c := range []api.Cell{{Value: -7, Slot: 9}, {Value: 8, Slot: 0}, {Value: 8, Slot: maxTime}, {Value: 0, Slot: 2}, {}} {
				c.Key = want[i].Key
				put(t, s, c)
				want[i] = c
				has(t, s, want...)
			}
			same(t, s.Put(api.Cell{Key: want[i].Key, Value: 9, Slot: -1}), api.ErrArg)
			has(t, s, want...)
		}
	}
}

// P12.1: keys are told apart by both of their parts.
func TestKeysApart(t *testing.T) {
	for _, seed := range seeds() {
		s := skip.New(seed)
		want := []api.Cell{cell(-1, 1, 1, 0), cell(0, -1, 2, 0), cell(0, 0, 3, 0), cell(0, 1, 4, 0), cell(1, -1, 5, 0), cell(1, 1, 6, 0)}
		put(t, s, want[5], want[0], want[3], want[2], want[4], want[1])
		has(t, s, want...)
		hasNot(t, s, key(-1, 0), key(-1, -1), key(1, 0), key(2, 1), key(0, 2), key(0, 1<<32))
	}
}

// P12.1, R2: Erase of each key of stores of several lengths, and of one that is not there; and a key that is put again behind it.
func TestErase(t *testing.T) {
	for _, seed := range seeds() {
		for many := range 9 {
			var rows []int64
			for i := range many {
				rows = append(rows, int64(2*(i*11%many)))
			}
			for gone := -1; gone <= 2*many; gone++ {
				s := filled(t, seed, rows...)
				k, want := key(0, int64(gone)), all(s)
				i := slices.IndexFunc(want, func(c api.Cell) bool { return c.Key == k })
				if i < 0 {
					same(t, s.Erase(k), api.ErrNone)
					has(t, s, want...)
					continue
				}
				same(t, s.Erase(k), api.OK)
				less := slices.Delete(slices.Clone(want), i, i+1)
				has(t, s, less...)
				hasNot(t, s, k)
				same(t, s.Erase(k), api.ErrNone)
				has(t, s, less...)
				want[i].Value, want[i].Slot = 77, 9
				put(t, s, want[i])
				has(t, s, want...)
				put(t, s, cell(0, 1000, 1, 1), cell(0, -1000, 1, 1))
				has(t, s, slices.Concat([]api.Cell{cell(0, -1000, 1, 1)}, want, []api.Cell{cell(0, 1000, 1, 1)})...)
			}
		}
	}
}

// P12.1: keys that are erased from either end, one by one, down to none; and what is put to what is left, or behind all.
func TestEraseAll(t *testing.T) {
	for _, seed := range seeds() {
		for _, lastFirst := range []bool{false, true} {
			s := filled(t, seed, 6, 1, 7, 3, 2, 8, 5, 4)
			want := all(s)
			for len(want) > 0 {
				i := 0
				if lastFirst {
					i = len(want) - 1
				}
				same(t, s.Erase(want[i].Key), api.OK)
				hasNot(t, s, want[i].Key)
				want = slices.Delete(want, i, i+1)
				has(t, s, want...)
				put(t, s, cell(0, 9, 9, 9))
				has(t, s, append(slices.Clone(want), cell(0, 9, 9, 9))...)
				same(t, s.Erase(key(0, 9)), api.OK)
				has(t, s, want...)
			}
			put(t, s, cellsOf(3, 1, 2)...)
			has(t, s, cellsOf(1, 2, 3)...)
		}
	}
}

// full is a store of MaxCells keys, the even rows from 0 on, all with the value 1 and the slot 2.
func full(t *testing.T, seed uint64) *skip.Skip {
	t.Helper()
	s := skip.New(seed)
	for row := range int64(api.MaxCells) {
		if e := s.Put(cell(0, 2*row, 1, 2)); e != api.OK {
			t.Fatal(row, e)
		}
	}
	same(t, s.Len(), api.MaxCells)
	return s
}

// P12.1, R2: a store of MaxCells keys takes those that are there and no other one, which draws no height; and again another one where one is erased.
func TestFull(t *testing.T) {
	const most = 2 * (api.MaxCells - 1)
	s := full(t, 1)
	for _, row := range []int64{minRow, -1, 1, 777, most - 1, most + 1, maxRow} {
		same(t, s.Put(cell(0, row, 5, 5)), api.ErrFull)
		same(t, s.Put(cell(0, row, 5, -1)), api.ErrArg) // the first that the chapter names
		hasNot(t, s, key(0, row))
		same(t, s.Len(), api.MaxCells)
	}
	for _, row := range []int64{0, 776, most} {
		put(t, s, cell(0, row, 5, 6))
		got, ok := s.Get(key(0, row))
		same(t, got, cell(0, row, 5, 6))
		same(t, ok, true)
		same(t, s.Put(cell(0, row, 7, maxTime+1)), api.ErrArg)
		same(t, s.Len(), api.MaxCells)
	}
	next := modelOf(1)
	for range api.MaxCells {
		next.draw()
	}
	for _, x := range [][2]int64{{776, 777}, {0, -1}, {most, most + 1}, {1000, 1000}} {
		same(t, s.Erase(key(0, x[0])), api.OK)
		same(t, s.Len(), api.MaxCells-1)
		put(t, s, cell(0, x[1], 8, 8))
		same(t, s.Len(), api.MaxCells)
		same(t, s.Put(cell(0, 3, 5, 5)), api.ErrFull)
		same(t, heightOf(s, key(0, x[1])), next.draw())
	}
}
