package ckpt

import (
	"trivet/api"
	"trivet/shape"
)

// Encode is a checkpoint of that number as bytes.
func Encode(number int64, s api.Saved) ([]byte, api.Errno) {
	if e := fault(number, s); e != api.OK {
		return nil, e
	}
	return sealed(number, s), api.OK
}

// Decode is the checkpoint with whose bytes b begins, and its number.
func Decode(b []byte) (int64, api.Saved, api.Errno) {
	d, _, e := shape.Unseal(b)
	if e != api.OK {
		return 0, api.Saved{}, api.ErrCkpt
	}
	l, rest, e := shape.Nums(d, 3)
	if e != api.OK {
		return 0, api.Saved{}, api.ErrCkpt
	}
	data, size, e := shape.TakeBlob(rest)
	if e != api.OK || size != len(rest) {
		return 0, api.Saved{}, api.ErrCkpt
	}
	s := api.Saved{Slot: l[1], Last: l[2], Data: data}
	if fault(l[0], s) != api.OK {
		return 0, api.Saved{}, api.ErrCkpt
	}
	return l[0], s, api.OK
}

// sealed is the bytes of a checkpoint without a fault. MaxState is so far below MaxBytes that they can always be sealed.
func sealed(number int64, s api.Saved) []byte {
	b, _ := shape.Seal(shape.Blob(shape.Num(nil, number, s.Slot, s.Last), s.Data))
	return b
}

// fault is what is wrong with a checkpoint of that number.
func fault(number int64, s api.Saved) api.Errno {
	switch {
	case number < 1 || number > api.MaxTime || !isSlot(s.Slot) || !isSlot(s.Last):
		return api.ErrArg
	case len(s.Data) > api.MaxState:
		return api.ErrLong
	}
	return api.OK
}

// isSlot tells whether n may be a checkpoint's slot, or its term.
func isSlot(n int64) bool {
	return n >= 0 && n <= api.MaxTime
}
