package skip

import (
	"math"

	"trivet/api"
	"trivet/shape"
)

// Bytes are how many keys there are, and what each of them has, rising.
func (s *Skip) Bytes() []byte {
	if !s.made() {
		return nil
	}
	l := []int64{int64(s.many)}
	for n := range s.level(0) {
		c := n.cell
		l = append(l, int64(c.Key.Table), c.Key.Row, c.Value, c.Slot)
	}
	return shape.Num(nil, l...)
}

// Parse is the store whose Bytes are b, with the heights that the seed draws for its keys in their order.
func Parse(b []byte, seed uint64) (*Skip, api.Errno) {
	s, r := New(seed), &reader{left: b}
	for range r.count() {
		c := r.cell()
		r.must(s.many == 0 || below(s.last[0].cell.Key, c.Key))
		if r.err != api.OK {
			break
		}
		s.insert(s.last, c, s.draw())
	}
	switch {
	case r.err != api.OK:
		return nil, r.err
	case len(r.left) > 0:
		return nil, api.ErrMore
	}
	return s, api.OK
}

// reader goes through bytes from the left. Behind its first error it reads nothing more, so that what is read of several numbers needs to ask nowhere whether those ahead were good.
type reader struct {
	left []byte
	err  api.Errno
}

// count is how many keys there are, refused as soon as it is read; behind an error it is 0.
func (r *reader) count() int64 {
	n := r.number()
	r.must(n >= 0 && n <= api.MaxCells)
	if r.err != api.OK {
		return 0
	}
	return n
}

// cell is a key and what it has. All four numbers are read ahead of refusing any: one that cannot be read is told first.
func (r *reader) cell() api.Cell {
	table, row, value, slot := r.number(), r.number(), r.number(), r.number()
	r.must(table >= math.MinInt32 && table <= math.MaxInt32)
	r.must(slot >= 0 && slot <= api.MaxTime)
	return api.Cell{Key: api.Key{Table: int32(table), Row: row}, Value: value, Slot: slot}
}

// number is the next one; behind an error it is 0.
func (r *reader) number() int64 {
	if r.err != api.OK {
		return 0
	}
	n, size, e := shape.TakeNum(r.left)
	r.left, r.err = r.left[size:], e
	return n
}

// must refuses what was read, unless what it is told holds; the first error stays.
func (r *reader) must(holds bool) {
	if !holds && r.err == api.OK {
		r.err = api.ErrBytes
	}
}
