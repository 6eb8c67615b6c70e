package skip_test

import (
	"bytes"
	"math"
	"slices"
	"testing"

	"trivet/api"
	"trivet/shape"
	"trivet/skip"
)

// refused fails the test, unless Parse answers this error and no store, whatever the seed is.
func refused(t *testing.T, b []byte, want api.Errno) {
	t.Helper()
	for _, seed := range []uint64{0, 1, 9} {
		if s, e := skip.Parse(b, seed); s != nil || e != want {
			t.Error(b, s, e, "not", want)
		}
	}
}

// read fails the test, unless b is read as the store of these cells, and is its Bytes.
func read(t *testing.T, b []byte, want ...api.Cell) {
	t.Helper()
	for _, seed := range seeds() {
		s, e := skip.Parse(b, seed)
		if s == nil || e != api.OK {
			t.Fatal(b, e)
		}
		has(t, s, want...)
		sameList(t, s.Bytes(), b)
	}
}

// P12.3: Bytes of no keys and of several, and what is read of them; whatever the order was in which they were put.
func TestBytes(t *testing.T) {
	for _, x := range []struct {
		l    []api.Cell
		want []byte
	}{
		{nil, []byte{0}},
		{[]api.Cell{{}}, []byte{2, 1, 0, 0, 0, 0}},
		{[]api.Cell{cell(1, 2, 3, 4)}, []byte{2, 1, 2, 1, 2, 2, 2, 3, 2, 4}},
		{[]api.Cell{cell(-1, -2, -300, 300)}, []byte{2, 1, 3, 1, 3, 2, 5, 44, 1, 4, 44, 1}},
		{[]api.Cell{cell(1, 2, 3, 4), cell(0, 5, 6, 7)}, []byte{2, 2, 0, 2, 5, 2, 6, 2, 7, 2, 1, 2, 2, 2, 3, 2, 4}},
		{[]api.Cell{cell(0, 5, 6, 7), cell(0, -5, 0, 0), cell(0, 0, 1, 1)}, []byte{2, 3, 0, 3, 5, 0, 0, 0, 0, 2, 1, 2, 1, 0, 2, 5, 2, 6, 2, 7}},
		{[]api.Cell{cell(minTable, minRow, minRow, 0), cell(maxTable, maxRow, maxRow, maxTime)}, slices.Concat([]byte{2, 2},
			[]byte{9, 0, 0, 0, 128}, []byte{17, 0, 0, 0, 0, 0, 0, 0, 128}, []byte{17, 0, 0, 0, 0, 0, 0, 0, 128}, []byte{0},
			[]byte{8, 255, 255, 255, 127}, []byte{16, 255, 255, 255, 255, 255, 255, 255, 127}, []byte{16, 255, 255, 255, 255, 255, 255, 255, 127}, []byte{12, 0, 0, 0, 0, 0, 1})},
	} {
		order := slices.SortedFunc(slices.Values(x.l), byKey)
		for _, seed := range seeds() {
			s := skip.New(seed)
			put(t, s, x.l...)
			sameList(t, s.Bytes(), x.want)
			put(t, s, cell(7, 7, 7, 7))
			same(t, s.Erase(key(7, 7)), api.OK)
			put(t, s, x.l...)
			sameList(t, s.Bytes(), x.want)
		}
		read(t, x.want, order...)
	}
	s := skip.New(3)
	for row := range int64(300) {
		put(t, s, cell(0, row, 0, 0))
	}
	sameList(t, s.Bytes()[:3], []byte{4, 44, 1})
}

// P12.3: of nothing, and of what is cut off at each place, Parse is shape's ErrEnds.
func TestParseCut(t *testing.T) {
	refused(t, nil, api.ErrEnds)
	refused(t, []byte{}, api.ErrEnds)
	s := skip.New(0)
	put(t, s, cell(minTable, minRow, minRow, 0), cell(-1, 0, 300, 1<<20), cell(0, 5, -6, 7), cell(maxTable, maxRow, maxRow, maxTime))
	b := s.Bytes()
	read(t, b, all(s)...)
	for n := range b {
		refused(t, b[:n], api.ErrEnds)
	}
}

// P12.3: at each place at which a number begins, one that has no form is shape's ErrForm.
func TestParseForm(t *testing.T) {
	good := []int64{2, 1, 2, 3, 4, 1, 3, 5, 6}
	for n := range good {
		b := shape.Num(nil, good[:n]...)
		for _, bad := range [][]byte{{1}, {18}, {255}, {2, 0}, {3, 0}, {4, 1, 0}, {16, 0, 0, 0, 0, 0, 0, 0, 128}} {
			refused(t, slices.Concat(b, bad), api.ErrForm)
			refused(t, slices.Concat(b, bad, shape.Num(nil, 0, 0, 0, 0, 0, 0, 0, 0, 0)), api.ErrForm)
		}
	}
}

// P12.3: the number of keys is refused as soon as it is read; more keys than there are bytes for are none.
func TestParseMany(t *testing.T) {
	for _, many := range []int64{math.MinInt64, -1 << 32, -2, -1, api.MaxCells + 1, 1 << 32, 1<<32 + 1, math.MaxInt64} {
		b := shape.Num(nil, many)
		refused(t, b, api.ErrBytes)
		refused(t, append(b, 1), api.ErrBytes) // ahead of a number that has no form
		refused(t, shape.Num(b, 1, 2, 3, 4), api.ErrBytes)
	}
	for _, many := range []int64{1, 2, 1000, api.MaxCells - 1, api.MaxCells} {
		b := shape.Num(nil, many)
		refused(t, b, api.ErrEnds)
		refused(t, append(b, 1), api.ErrForm)
	}
	refused(t, shape.Num(nil, 3, 0, 1, 0, 0, 0, 2, 0, 0), api.ErrEnds)
	refused(t, shape.Num(nil, api.MaxCells, 0, 1, 0, 0, 0, 2, 0, 0), api.ErrEnds)
}

// P12.3: a Table that no int32 holds, of the first key and of a later one, is refused when its key's Slot was read, not ahead of that; those at the edges are not.
func TestParseTable(t *testing.T) {
	for _, table := range []int64{math.MinInt64, minTable - 1<<32, minTable - 1, maxTable + 1, 1 << 32, 1<<32 + 1, maxTime, math.MaxInt64} {
		for _, b := range [][]byte{shape.Num(nil, 1, table), shape.Num(nil, 2, table), shape.Num(nil, 2, 0, 0, 0, 0, table), shape.Num(nil, 3, 0, 0, 0, 0, table)} {
			refusedBehindSlot(t, b)
		}
	}
	for _, table := range []int32{minTable, minTable + 1, -1, 0, 1, maxTable - 1, maxTable} {
		read(t, shape.Num(nil, 1, int64(table), 1, 2, 3), cell(table, 1, 2, 3))
	}
}

// refusedBehindSlot fails the test, unless the key whose Table b ends with is refused when its Slot was read: each number up to that one is told first if it cannot be read, and nothing behind it is read.
func refusedBehindSlot(t *testing.T, b []byte) {
	t.Helper()
	for _, l := range [][]int64{{}, {1}, {1, 2}} {
		cut := shape.Num(b, l...)
		refused(t, cut, api.ErrEnds)
		refused(t, slices.Concat(cut, []byte{2}), api.ErrEnds)
		refused(t, slices.Concat(cut, []byte{1}), api.ErrForm)
		refused(t, slices.Concat(cut, []byte{2, 0, 0, 0, 0}), api.ErrForm)
	}
	for _, slot := range []int64{0, maxTime, -1, maxTime + 1} {
		whole := shape.Num(b, 1, 2, slot)
		refused(t, whole, api.ErrBytes)
		refused(t, slices.Concat(whole, []byte{0}), api.ErrBytes)  // ahead of bytes that are left
		refused(t, slices.Concat(whole, []byte{18}), api.ErrBytes) // and of a number that has no form
		refused(t, shape.Num(whole, 3, 4, 5, 6), api.ErrBytes)
	}
}

// P12.3: a Slot that is not from 0 to MaxTime is refused, of the first key and of a later one, when it is read.
func TestParseSlot(t *testing.T) {
	for _, slot := range []int64{math.MinInt64, -maxTime, -1, maxTime + 1, 1<<41 + 1, math.MaxInt64} {
		for _, b := range [][]byte{shape.Num(nil, 1, 0, 0, 0, slot), shape.Num(nil, 2, 0, 0, 0, 0, 0, 1, 0, slot), shape.Num(nil, 2, 0, 0, 0, slot)} {
			refused(t, b, api.ErrBytes)
			refused(t, append(b, 0), api.ErrBytes) // ahead of bytes that are left
			refused(t, append(b, 1), api.ErrBytes) // and of a number that has no form
		}
	}
	for _, slot := range []int64{0, 1, maxTime - 1, maxTime} {
		read(t, shape.Num(nil, 2, 0, 0, 0, slot, 0, 1, 0, slot), cell(0, 0, 0, slot), cell(0, 1, 0, slot))
	}
}

// P12.3: a key that is not above the one ahead is refused when its Slot was read, not ahead of that.
func TestParseOrder(t *testing.T) {
	for _, x := range [][2]api.Key{
		{key(0, 0), key(0, 0)},
		{key(0, 1), key(0, 0)},
		{key(0, 0), key(0, -1)},
		{key(1, 0), key(0, 1)},
		{key(0, 0), key(-1, 5)},
		{key(5, -9), key(5, -9)},
		{key(maxTable, maxRow), lowest()},
		{key(maxTable, maxRow), key(maxTable, maxRow)},
		{key(maxTable, maxRow), key(maxTable, maxRow-1)},
		{lowest(), lowest()},
	} {
		a, b := x[0], x[1]
		for _, b := range [][]byte{
			shape.Num(nil, 2, int64(a.Table), a.Row, 1, 1, int64(b.Table), b.Row),
			shape.Num(nil, 3, minTable, minRow, 0, 0, int64(a.Table), a.Row, 1, 1, int64(b.Table), b.Row),
		} {
			if a == lowest() && len(b) > 20 {
				continue
			}
			refused(t, b, api.ErrEnds)
			refused(t, append(b, 1), api.ErrForm)
			refused(t, shape.Num(b, 7), api.ErrEnds)
			refused(t, append(shape.Num(b, 7), 1), api.ErrForm)
			refused(t, shape.Num(b, 7, 7), api.ErrBytes)
			refused(t, shape.Num(b, 7, -7), api.ErrBytes)
			refused(t, append(shape.Num(b, 7, 7), 1), api.ErrBytes)
			refused(t, shape.Num(b, 7, 7, 7), api.ErrBytes)
		}
		if a != b {
			read(t, shape.Num(nil, 2, int64(b.Table), b.Row, 1, 1, int64(a.Table), a.Row, 1, 1), api.Cell{Key: b, Value: 1, Slot: 1}, api.Cell{Key: a, Value: 1, Slot: 1})
		}
	}
	refused(t, shape.Num(nil, 3, 0, 1, 0, 0, 0, 3, 0, 0, 0, 2, 0, 0), api.ErrBytes) // above the first, not above the second
}

// P12.3: bytes that are left are shape's ErrMore, when all else is good.
func TestParseMore(t *testing.T) {
	for _, b := range [][]byte{{0}, shape.Num(nil, 1, 0, 0, 0, 0), shape.Num(nil, 2, 0, 0, 0, 0, 0, 1, 0, 0)} {
		if _, e := skip.Parse(b, 0); e != api.OK {
			t.Error(b, e)
		}
		for _, more := range [][]byte{{0}, {1}, {255}, {2, 1}, {2}, {0, 0, 0, 0}, make([]byte, 100)} {
			refused(t, slices.Concat(b, more), api.ErrMore)
		}
	}
}

// P12.3: what is read has the heights that the seed draws for its keys in their order, and the next one is the next.
func TestParseHeights(t *testing.T) {
	for seed, want := range drawn() {
		for many := range want {
			s := skip.New(77)
			for row := range many {
				put(t, s, cell(0, int64((row*25)%many), 1, 1), cell(0, int64(row), 1, 1))
			}
			u, e := skip.Parse(s.Bytes(), seed)
			same(t, e, api.OK)
			same(t, skip.Same(s, u), true)
			for row := range many {
				same(t, heightOf(u, key(0, int64(row))), want[row])
			}
			put(t, u, cell(-1, 0, 1, 1))
			same(t, heightOf(u, key(-1, 0)), want[many])
		}
	}
}

// P12.3, P12.6: MaxCells keys there and back.
func TestParseFull(t *testing.T) {
	l := make([]int64, 0, 4*api.MaxCells+6)
	l = append(l, api.MaxCells)
	for row := range int64(api.MaxCells) {
		l = append(l, 0, row, 1, 2)
	}
	b := shape.Num(nil, l...)
	s, e := skip.Parse(b, 0)
	same(t, e, api.OK)
	same(t, s.Len(), api.MaxCells)
	same(t, bytes.Equal(s.Bytes(), b), true)
	same(t, s.Put(cell(0, -1, 1, 1)), api.ErrFull)
	if u, e := skip.Parse(append(b, 0), 0); u != nil || e != api.ErrMore {
		t.Error(u, e)
	}
	l[0]++
	if u, e := skip.Parse(shape.Num(nil, append(l, 1, 0, 0, 0)...), 0); u != nil || e != api.ErrBytes {
		t.Error(u, e)
	}
}

// FuzzParse: P12.3, P12.6: any bytes are read as the chapter's words say, and what is read is written as just these.
func FuzzParse(f *testing.F) {
	f.Add([]byte{0}, uint64(0))
	f.Add([]byte{2}, uint64(0))
	f.Add(shape.Num(nil, 1, 1, 2, 3, 4), uint64(1))
	f.Add(shape.Num(nil, 2, 1, 2, 3, 4, 1, 3, -5, maxTime), uint64(9))
	f.Add(shape.Num(nil, 2, 1, 2, 3, 4, 1, 2, 3, 4), uint64(9))
	f.Add(shape.Num(nil, 2, 1, 2, 3, 4, 1<<32), uint64(0))
	f.Fuzz(func(t *testing.T, b []byte, seed uint64) {
		if len(b) < 1<<12 {
			parsesAsWords(t, b, seed)
		}
	})
}
