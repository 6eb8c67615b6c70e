package code_test

import (
	"math"
	"slices"
	"testing"

	"trivet/api"
	"trivet/code"
)

// encodes fails the test, unless Encode answers that; beside an error there are no bytes at all.
func encodes(t *testing.T, want []byte, e api.Errno, l ...api.Instr) {
	t.Helper()
	b, got := code.Encode(l...)
	if !slices.Equal(b, want) || got != e || e != api.OK && b != nil {
		t.Errorf("Encode(%v): % d, %d; want % d, %d", l, b, got, want, e)
	}
}

// P13.1, R4: of no instructions no bytes.
func TestEncodeNothing(t *testing.T) {
	encodes(t, nil, api.OK)
	encodes(t, nil, api.OK, []api.Instr{}...)
}

// P13.1: the bytes of each instruction alone, of all of them in a row, and of each two.
func TestEncodeAll(t *testing.T) {
	var all []byte
	var l []api.Instr
	for _, f := range forms() {
		encodes(t, f.b, api.OK, f.x)
		l, all = append(l, f.x), append(all, f.b...)
		encodes(t, all, api.OK, l...)
		for _, g := range forms() {
			encodes(t, slices.Concat(f.b, g.b), api.OK, f.x, g.x)
		}
	}
	same(t, len(all), 83)
}

// P13.1: At counts for nothing, whatever it is.
func TestEncodeAt(t *testing.T) {
	for _, f := range forms() {
		for _, at := range []int{math.MinInt, -1, 1, 3, 511, 512, 513, 1 << 32, math.MaxInt} {
			x := f.x
			x.At = at
			encodes(t, f.b, api.OK, x)
			encodes(t, slices.Concat(f.b, f.b), api.OK, x, x)
		}
	}
}

// wrong are numbers that are not 0, some of them such as have noughts for their lowest bits.
func wrong() []int64 {
	return []int64{math.MinInt64, -1 << 32, -65536, -256, -1, 1, 7, 8, 255, 256, 65536, 1 << 32, math.MaxInt64}
}

// hasImm tells whether an Op has an Imm.
func hasImm(op int) bool {
	switch {
	case op == api.InHalt, op == api.InOut:
		return false
	case op >= api.InMove && op <= api.InEqual:
		return op == api.InNarrow
	}
	return true
}

// P13.1: each field that an instruction does not have must be zero; that is told ahead of registers that there are not.
func TestEncodeFieldThatIsNotThere(t *testing.T) {
	for _, f := range forms() {
		for _, n := range wrong() {
			x := f.x
			if named(x.Op) < 1 {
				x.A = int(n)
				encodes(t, nil, api.ErrCode, x)
				x = f.x
			}
			if named(x.Op) < 2 {
				x.B = int(n)
				encodes(t, nil, api.ErrCode, x)
				if named(x.Op) == 1 {
					x.A = 8
					encodes(t, nil, api.ErrCode, x)
				}
				x = f.x
			}
			if !hasImm(x.Op) {
				x.Imm = n
				encodes(t, nil, api.ErrCode, x)
				if named(x.Op) > 0 {
					x.A = 8
					encodes(t, nil, api.ErrCode, x)
				}
			}
		}
	}
}

// P13.1: registers at their edges, and numbers that are none.
func TestEncodeRegisters(t *testing.T) {
	for _, f := range forms() {
		for i := range named(f.x.Op) {
			for _, r := range []int{math.MinInt, -1 << 32, -256, -249, -8, -1, 0, 1, 7, 8, 9, 255, 256, 257, 1 << 32, math.MaxInt} {
				x, b := f.x, slices.Clone(f.b)
				if i == 0 {
					x.A = r
				} else {
					x.B = r
				}
				if r < 0 || r > 7 {
					encodes(t, nil, api.ErrIndex, x)
					continue
				}
				b[1+i] = byte(r)
				encodes(t, b, api.OK, x)
			}
		}
	}
}

// bounds are the least Imm and the greatest one that an Op's bytes hold.
func bounds(op int) (int64, int64) {
	switch op {
	case api.InConst:
		return -32768, 32767
	case api.InJump, api.InJumpIf:
		return 0, 65535
	}
	return 0, 255
}

// P13.1: each Imm at both its edges, and beyond them.
func TestEncodeImm(t *testing.T) {
	for _, f := range forms() {
		if !hasImm(f.x.Op) || f.x.Op == api.InNarrow {
			continue
		}
		least, most := bounds(f.x.Op)
		for _, imm := range []int64{least, least + 1, 0, 1, 2, most - 1, most} {
			x, b := f.x, slices.Clone(f.b)
			x.Imm = imm
			b[len(b)-1] = byte(imm)
			if most > 255 {
				b[len(b)-2], b[len(b)-1] = byte(imm&255), byte((imm&0xFF00)/256)
			}
			encodes(t, b, api.OK, x)
		}
		for _, imm := range []int64{math.MinInt64, -1 << 32, least - 65536, least - 256, least - 1, most + 1, most + 256, most + 65537, 1 << 32, 1<<32 + 5, math.MaxInt64} {
			x := f.x
			x.Imm = imm
			encodes(t, nil, api.ErrCode, x)
			if named(x.Op) > 0 { // a register that there is not is told ahead of an Imm that does not fit
				x.A = 8
				encodes(t, nil, api.ErrIndex, x)
			}
		}
	}
}

// P13.1: InConst's bytes have the sign.
func TestEncodeSign(t *testing.T) {
	for imm, b := range map[int64][2]byte{-32768: {0, 128}, -32767: {1, 128}, -257: {255, 254}, -256: {0, 255}, -255: {1, 255}, -2: {254, 255}, -1: {255, 255}, 0: {0, 0}, 1: {1, 0}, 255: {255, 0}, 256: {0, 1}, 32767: {255, 127}} {
		encodes(t, []byte{api.InConst, 7, b[0], b[1]}, api.OK, instr(api.InConst, 7, 0, imm))
	}
}

// P13.1: InNarrow's Imm is 8, 16 or 32; another one is ErrIndex, as in One, also where it would not fit its byte.
func TestEncodeNarrow(t *testing.T) {
	for _, imm := range []int64{math.MinInt64, -248, -32, -8, -1, 0, 1, 7, 9, 15, 17, 24, 31, 33, 64, 255, 256, 264, 272, 288, 1<<32 + 8, math.MaxInt64} {
		encodes(t, nil, api.ErrIndex, instr(api.InNarrow, 0, 0, imm))
		encodes(t, nil, api.ErrIndex, instr(api.InNarrow, 8, 0, imm))
		encodes(t, nil, api.ErrCode, instr(api.InNarrow, 0, 1, imm))
	}
	for _, imm := range []int64{8, 16, 32} {
		encodes(t, []byte{api.InNarrow, 7, byte(imm)}, api.OK, instr(api.InNarrow, 7, 0, imm))
		encodes(t, nil, api.ErrIndex, instr(api.InNarrow, 8, 0, imm))
		encodes(t, nil, api.ErrCode, instr(api.InNarrow, 8, 1, imm))
	}
}

// P13.1: an Op that is none, with whatever fields.
func TestEncodeNoOp(t *testing.T) {
	for _, op := range noOps() {
		encodes(t, nil, api.ErrCode, instr(op, 0, 0, 0))
		encodes(t, nil, api.ErrCode, instr(op, 8, 8, 1<<40))
		encodes(t, nil, api.ErrCode, instr(api.InHalt, 0, 0, 0), instr(op, 0, 0, 0))
	}
}

// P13.1: of several that may not be, the first one's error is told.
func TestEncodeFirstError(t *testing.T) {
	good, none, index, wide := instr(api.InOut, 3, 0, 0), instr(28, 0, 0, 0), instr(api.InOut, 8, 0, 0), instr(api.InErase, 0, 0, 256)
	for _, x := range []struct {
		l []api.Instr
		e api.Errno
	}{
		{[]api.Instr{none, index}, api.ErrCode},
		{[]api.Instr{index, none}, api.ErrIndex},
		{[]api.Instr{wide, index}, api.ErrCode},
		{[]api.Instr{index, wide}, api.ErrIndex},
		{[]api.Instr{good, index, wide}, api.ErrIndex},
		{[]api.Instr{good, good, wide, index}, api.ErrCode},
		{[]api.Instr{good, good, good, index}, api.ErrIndex},
		{[]api.Instr{good, none, good}, api.ErrCode},
	} {
		encodes(t, nil, x.e, x.l...)
	}
}

// P13.1: MaxCode bytes, and one more; an instruction that may not be is told ahead of that, also where it stands behind so many bytes.
func TestEncodeLong(t *testing.T) {
	halt, out, index, none := instr(api.InHalt, 0, 0, 0), instr(api.InOut, 1, 0, 0), instr(api.InOut, 8, 0, 0), instr(-1, 0, 0, 0)
	l := slices.Repeat([]api.Instr{halt}, 512)
	encodes(t, halts(512), api.OK, l...)
	encodes(t, nil, api.ErrLong, append(l, halt)...)
	encodes(t, nil, api.ErrIndex, append(l, index)...)
	encodes(t, nil, api.ErrCode, append(l, none)...)
	encodes(t, nil, api.ErrIndex, append(append(slices.Clone(l), l...), index, none)...)
	l[0] = out
	encodes(t, nil, api.ErrLong, l...)
	encodes(t, append([]byte{api.InOut, 1}, halts(510)...), api.OK, l[:511]...)
	wide := slices.Repeat([]api.Instr{instr(api.InConst, 1, 0, 2)}, 128)
	encodes(t, slices.Repeat([]byte{api.InConst, 1, 2, 0}, 128), api.OK, wide...)
	encodes(t, nil, api.ErrLong, append(wide, halt)...)
	encodes(t, nil, api.ErrLong, slices.Repeat(wide, 1000)...)
	encodes(t, nil, api.ErrIndex, append(slices.Repeat(wide, 1000), index)...)
}

// P13.1: jumps' targets are not asked.
func TestEncodeTargets(t *testing.T) {
	for _, target := range []int64{0, 1, 2, 3, 511, 512, 65535} {
		low, high := byte(target%256), byte(target/256)
		encodes(t, []byte{api.InJump, low, high}, api.OK, instr(api.InJump, 0, 0, target))
		encodes(t, []byte{api.InJumpIf, 2, low, high}, api.OK, instr(api.InJumpIf, 2, 0, target))
	}
}
