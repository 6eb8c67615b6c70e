package code_test

import (
	"math"
	"slices"
	"testing"

	"trivet/api"
	"trivet/code"
)

func same[T comparable](t *testing.T, got, want T) {
	t.Helper()
	if got != want {
		t.Error(got, "not", want)
	}
}

func sameList[T comparable](t *testing.T, got, want []T) {
	t.Helper()
	if !slices.Equal(got, want) {
		t.Error(got, "not", want)
	}
}

// instr is an instruction whose address counts for nothing.
func instr(op, a, b int, imm int64) api.Instr { return api.Instr{Op: op, A: a, B: b, Imm: imm} }

// form is an instruction and its bytes, written out by the chapter's table.
type form struct {
	x api.Instr
	b []byte
}

// forms has each instruction once, by its Op, with what it has and no more.
func forms() []form {
	return []form{
		{instr(api.InHalt, 0, 0, 0), []byte{0}},
		{instr(api.InConst, 1, 0, 0x1234), []byte{1, 1, 0x34, 0x12}},
		{instr(api.InArg, 2, 0, 200), []byte{2, 2, 200}},
		{instr(api.InLoad, 3, 0, 201), []byte{3, 3, 201}},
		{instr(api.InHas, 4, 0, 202), []byte{4, 4, 202}},
		{instr(api.InStore, 5, 0, 203), []byte{5, 5, 203}},
		{instr(api.InErase, 0, 0, 204), []byte{6, 204}},
		{instr(api.InMove, 6, 1, 0), []byte{7, 6, 1}},
		{instr(api.InAdd, 7, 2, 0), []byte{8, 7, 2}},
		{instr(api.InSub, 6, 3, 0), []byte{9, 6, 3}},
		{instr(api.InMul, 5, 4, 0), []byte{10, 5, 4}},
		{instr(api.InDiv, 4, 5, 0), []byte{11, 4, 5}},
		{instr(api.InMod, 3, 6, 0), []byte{12, 3, 6}},
		{instr(api.InAnd, 2, 7, 0), []byte{13, 2, 7}},
		{instr(api.InOr, 1, 6, 0), []byte{14, 1, 6}},
		{instr(api.InXor, 7, 5, 0), []byte{15, 7, 5}},
		{instr(api.InShl, 6, 4, 0), []byte{16, 6, 4}},
		{instr(api.InShr, 5, 3, 0), []byte{17, 5, 3}},
		{instr(api.InUshr, 4, 2, 0), []byte{18, 4, 2}},
		{instr(api.InNarrow, 3, 0, 32), []byte{19, 3, 32}},
		{instr(api.InLess, 2, 1, 0), []byte{20, 2, 1}},
		{instr(api.InEqual, 1, 7, 0), []byte{21, 1, 7}},
		{instr(api.InJump, 0, 0, 0xFEDC), []byte{22, 0xDC, 0xFE}},
		{instr(api.InJumpIf, 4, 0, 0xBA98), []byte{23, 4, 0x98, 0xBA}},
		{instr(api.InOut, 5, 0, 0), []byte{24, 5}},
		{instr(api.InAbort, 0, 0, 205), []byte{25, 205}},
		{instr(api.InLoadAt, 6, 3, 206), []byte{26, 6, 3, 206}},
		{instr(api.InStoreAt, 7, 4, 207), []byte{27, 7, 4, 207}},
	}
}

// P13.1: each number of the chapter's is an Op, and has its place among the forms.
func TestOps(t *testing.T) {
	same(t, len(forms()), 28)
	for op, f := range forms() {
		same(t, f.x.Op, op)
		same(t, f.b[0], byte(op))
	}
	same(t, api.InHalt, 0)
	same(t, api.InStoreAt, 27)
}

// P13.1: Size of each Op, and of numbers that are none.
func TestSize(t *testing.T) {
	want := [28]int{1, 4, 3, 3, 3, 3, 2, 3, 3, 3, 3, 3, 3, 3, 3, 3, 3, 3, 3, 3, 3, 3, 3, 4, 2, 2, 4, 4}
	for op, size := range want {
		got, is := code.Size(op)
		same(t, got, size)
		same(t, is, true)
	}
	for _, op := range noOps() {
		got, is := code.Size(op)
		same(t, got, 0)
		same(t, is, false)
	}
}

// noOps are numbers that are no Op, some of them such as have an Op for their lowest bits.
func noOps() []int {
	l := []int{math.MinInt, math.MinInt + 1, math.MinInt32, -256, -255, -28, -27, -2, -1, 256, 257, 283, 512, 1 << 16, 1 << 31, 1 << 32, 1<<32 + 1, math.MaxInt - 1, math.MaxInt}
	for op := 28; op < 256; op++ {
		l = append(l, op)
	}
	return l
}

// one fails the test, unless One answers that, and zero values beside an error.
func one(t *testing.T, b []byte, at int, x api.Instr, next int, e api.Errno) {
	t.Helper()
	gotX, gotNext, gotE := code.One(b, at)
	if gotX != x || gotNext != next || gotE != e {
		t.Errorf("One(% d, %d): %v, %d, %d; want %v, %d, %d", b, at, gotX, gotNext, gotE, x, next, e)
	}
}

func refused(t *testing.T, b []byte, at int, e api.Errno) {
	t.Helper()
	one(t, b, at, api.Instr{}, 0, e)
}

// P13.1: One of each instruction, at the address 0 and at others, alone and with something behind it.
func TestOne(t *testing.T) {
	for _, f := range forms() {
		for _, ahead := range []int{0, 1, 2, 7, 300, 1000} {
			for _, behind := range []int{0, 1, 5, 600} {
				b := slices.Concat(slices.Repeat([]byte{255}, ahead), f.b, slices.Repeat([]byte{255}, behind))
				x := f.x
				x.At = ahead
				one(t, b, ahead, x, ahead+len(f.b), api.OK)
			}
		}
	}
}

// P13.1: One of an address that there is not, of the first byte and of the last one.
func TestOneAddress(t *testing.T) {
	b := []byte{1, 2, 255, 255, 24, 2, 0}
	one(t, b, 0, api.Instr{Op: api.InConst, A: 2, Imm: -1}, 4, api.OK)
	one(t, b, 6, api.Instr{At: 6, Op: api.InHalt}, 7, api.OK)
	for _, at := range []int{math.MinInt, math.MinInt32, -256, -7, -2, -1, 7, 8, 1 << 31, 1 << 32, math.MaxInt - 1, math.MaxInt} {
		refused(t, b, at, api.ErrCode)
	}
	for _, at := range []int{math.MinInt, -1, 0, 1, math.MaxInt} {
		refused(t, nil, at, api.ErrCode)
		refused(t, []byte{}, at, api.ErrCode)
	}
	one(t, b, 5, api.Instr{}, 0, api.ErrCode) // an InArg that is cut
	one(t, b, 4, api.Instr{At: 4, Op: api.InOut, A: 2}, 6, api.OK)
	one(t, []byte{7, 0, 0, 0}, 1, api.Instr{At: 1, Op: api.InHalt}, 2, api.OK) // in the middle of another one: One does not ask
}

// P13.1: One of a byte that is no Op.
func TestOneNoOp(t *testing.T) {
	for op := range 256 {
		b := []byte{0, byte(op), 0, 0, 0, 0, 0, 0}
		_, _, e := code.One(b, 1)
		switch {
		case op >= 28:
			refused(t, b, 1, api.ErrCode)
		case op == api.InNarrow:
			same(t, e, api.ErrIndex)
		default:
			same(t, e, api.OK)
		}
	}
}

// P13.1: One with each number of bytes cut off, of bytes that reach on in memory, too; that is told ahead of registers that there are not.
func TestOneCut(t *testing.T) {
	for _, f := range forms() {
		for n := range len(f.b) {
			refused(t, f.b[:n], 0, api.ErrCode)
			refused(t, slices.Concat([]byte{0, 0}, f.b[:n]), 2, api.ErrCode)
			if n > 0 {
				bad := slices.Repeat([]byte{255}, len(f.b))
				bad[0] = f.b[0]
				refused(t, bad[:n], 0, api.ErrCode)
			}
		}
	}
}

// P13.1: A and B of each byte that there is: those below Registers are registers.
func TestOneRegisters(t *testing.T) {
	for _, f := range forms() {
		for i := range named(f.x.Op) {
			for r := range 256 {
				b, x := slices.Clone(f.b), f.x
				b[1+i] = byte(r)
				if i == 0 {
					x.A = r
				} else {
					x.B = r
				}
				if r < 8 {
					one(t, b, 0, x, len(b), api.OK)
				} else {
					refused(t, b, 0, api.ErrIndex)
				}
			}
		}
	}
}

// named is how many registers an Op has.
func named(op int) int {
	switch {
	case op >= api.InMove && op <= api.InEqual && op != api.InNarrow, op == api.InLoadAt, op == api.InStoreAt:
		return 2
	case op == api.InHalt, op == api.InErase, op == api.InJump, op == api.InAbort:
		return 0
	}
	return 1
}

// P13.1: InNarrow's Imm is 8, 16 or 32, and nothing else, whichever register it has.
func TestOneNarrow(t *testing.T) {
	for imm := range 256 {
		for a := range 8 {
			b := []byte{api.InNarrow, byte(a), byte(imm)}
			if imm == 8 || imm == 16 || imm == 32 {
				one(t, b, 0, instr(api.InNarrow, a, 0, int64(imm)), 3, api.OK)
			} else {
				refused(t, b, 0, api.ErrIndex)
			}
		}
		refused(t, []byte{api.InNarrow, 8, byte(imm)}, 0, api.ErrIndex)
	}
}

// P13.1: each Imm that bytes can say: InConst's has a sign, the others have none, the lower byte is the first.
func TestOneImm(t *testing.T) {
	for low := range 256 {
		for high := range 256 {
			u := int64(low + 256*high)
			signed := u
			if high >= 128 {
				signed = u - 65536
			}
			one(t, []byte{api.InConst, 0, byte(low), byte(high)}, 0, instr(api.InConst, 0, 0, signed), 4, api.OK)
			one(t, []byte{api.InJump, byte(low), byte(high)}, 0, instr(api.InJump, 0, 0, u), 3, api.OK)
			one(t, []byte{api.InJumpIf, 7, byte(low), byte(high)}, 0, instr(api.InJumpIf, 7, 0, u), 4, api.OK)
		}
		imm := int64(low)
		for _, op := range []int{api.InArg, api.InLoad, api.InHas, api.InStore} {
			one(t, []byte{byte(op), 7, byte(low)}, 0, instr(op, 7, 0, imm), 3, api.OK)
		}
		for _, op := range []int{api.InErase, api.InAbort} {
			one(t, []byte{byte(op), byte(low)}, 0, instr(op, 0, 0, imm), 2, api.OK)
		}
		for _, op := range []int{api.InLoadAt, api.InStoreAt} {
			one(t, []byte{byte(op), 7, 6, byte(low)}, 0, instr(op, 7, 6, imm), 4, api.OK)
		}
	}
}

// The chapter's examples.
func TestExamples(t *testing.T) {
	b, e := code.Encode(instr(api.InConst, 2, 0, -1), instr(api.InOut, 2, 0, 0), instr(api.InHalt, 0, 0, 0))
	same(t, e, api.OK)
	sameList(t, b, []byte{1, 2, 255, 255, 24, 2, 0})
	l, e := code.Decode(b)
	same(t, e, api.OK)
	sameList(t, l, []api.Instr{{Op: api.InConst, A: 2, Imm: -1}, {At: 4, Op: api.InOut, A: 2}, {At: 6, Op: api.InHalt}})
	decodes(t, append(b, api.InJump, 1, 0), nil, api.ErrTarget)
	decodes(t, []byte{api.InJump, 3, 0, 1, 2, 255, 255, 24, 2, 0}, []api.Instr{{Op: api.InJump, Imm: 3}, {At: 3, Op: api.InConst, A: 2, Imm: -1}, {At: 7, Op: api.InOut, A: 2}, {At: 9, Op: api.InHalt}}, api.OK)
	sameList(t, code.Reach([]byte{api.InJump, 0, 0}), []int{0})
}
