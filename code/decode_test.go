package code_test

import (
	"slices"
	"testing"

	"trivet/api"
	"trivet/code"
)

// decodes fails the test, unless Decode answers that; beside an error a list is not there at all.
func decodes(t *testing.T, b []byte, want []api.Instr, e api.Errno) {
	t.Helper()
	l, got := code.Decode(b)
	if !slices.Equal(l, want) || got != e || e != api.OK && l != nil {
		t.Errorf("Decode(% d): %v, %d; want %v, %d", b, l, got, want, e)
	}
}

// P13.1, R4: of no bytes none.
func TestDecodeNothing(t *testing.T) {
	decodes(t, nil, nil, api.OK)
	decodes(t, []byte{}, nil, api.OK)
}

// P13.1: each instruction alone, and all of them in a row, each with its address.
func TestDecodeAll(t *testing.T) {
	var all []byte
	var want []api.Instr
	for _, f := range forms() {
		x, b := f.x, slices.Clone(f.b)
		if x.Op == api.InJump || x.Op == api.InJumpIf {
			decodes(t, b, nil, api.ErrTarget) // the form's own target is far off
			x.Imm, b[len(b)-2], b[len(b)-1] = 0, 0, 0
		}
		decodes(t, b, []api.Instr{x}, api.OK)
		x.At = len(all)
		all, want = append(all, b...), append(want, x)
		decodes(t, all, want, api.OK)
	}
	same(t, len(all), 83)
}

// halts is so many InHalts.
func halts(n int) []byte { return make([]byte, n) }

// P13.1: MaxCode bytes, and one more; that is told ahead of all that is wrong with them.
func TestDecodeLong(t *testing.T) {
	l, e := code.Decode(halts(512))
	same(t, e, api.OK)
	same(t, len(l), 512)
	for at, x := range l {
		same(t, x, api.Instr{At: at, Op: api.InHalt})
	}
	for _, n := range []int{513, 514, 1024, 1 << 20} {
		decodes(t, halts(n), nil, api.ErrLong)
		decodes(t, slices.Repeat([]byte{99}, n), nil, api.ErrLong)
		decodes(t, slices.Repeat([]byte{api.InOut, 8}, n), nil, api.ErrLong)
		decodes(t, slices.Concat([]byte{api.InJump, 1, 0}, halts(n)), nil, api.ErrLong)
	}
	decodes(t, append(halts(510), api.InOut, 3), append(l[:510:510], api.Instr{At: 510, Op: api.InOut, A: 3}), api.OK)
	decodes(t, append(halts(511), api.InOut), nil, api.ErrCode)
	decodes(t, append(halts(511), api.InOut, 3), nil, api.ErrLong)
}

// P13.1: One's first error, wherever it stands, whatever stands behind it.
func TestDecodeFirstError(t *testing.T) {
	for _, ahead := range [][]byte{nil, {0}, {1, 2, 255, 255, 24, 2}, halts(400)} {
		for _, x := range []struct {
			b []byte
			e api.Errno
		}{
			{[]byte{28}, api.ErrCode},
			{[]byte{255}, api.ErrCode},
			{[]byte{api.InConst, 0, 0}, api.ErrCode},
			{[]byte{api.InOut, 8}, api.ErrIndex},
			{[]byte{api.InAdd, 0, 8}, api.ErrIndex},
			{[]byte{api.InNarrow, 0, 9}, api.ErrIndex},
			{[]byte{28, api.InOut, 8}, api.ErrCode},
			{[]byte{api.InOut, 8, 28}, api.ErrIndex},
			{[]byte{api.InOut, 8, api.InOut}, api.ErrIndex},
			{[]byte{api.InNarrow, 0, 9, 28}, api.ErrIndex},
			{[]byte{28, api.InJump, 1, 0}, api.ErrCode},
		} {
			decodes(t, slices.Concat(ahead, x.b), nil, x.e)
		}
	}
}

// P13.1: targets are asked when all is read: an error behind a jump whose target is none is told, not the target.
func TestDecodeErrorBehindJump(t *testing.T) {
	for _, jump := range [][]byte{{api.InJump, 1, 0}, {api.InJump, 255, 255}, {api.InJumpIf, 3, 1, 0}, {api.InJumpIf, 0, 0, 2}} {
		decodes(t, jump, nil, api.ErrTarget)
		decodes(t, append(slices.Clone(jump), 0), nil, api.ErrTarget)
		decodes(t, append(slices.Clone(jump), 28), nil, api.ErrCode)
		decodes(t, append(slices.Clone(jump), api.InOut), nil, api.ErrCode)
		decodes(t, append(slices.Clone(jump), api.InOut, 8), nil, api.ErrIndex)
		decodes(t, append(slices.Clone(jump), api.InNarrow, 0, 64), nil, api.ErrIndex)
	}
	decodes(t, []byte{api.InJumpIf, 8, 1, 0}, nil, api.ErrIndex) // in one instruction, too
}

// targets are those to which a jump may go in code with it: the addresses at which instructions begin.
func targets(b []byte) []int {
	var l []int
	for at := 0; at < len(b); {
		size, _ := code.Size(int(b[at]))
		l = append(l, at)
		at += size
	}
	return l
}

// P13.1: jumps to each address, into the middle of instructions, to the end and beyond it, from the first place, a middle one and the last one.
func TestDecodeTargets(t *testing.T) {
	ahead, behind := []byte{api.InConst, 1, 5, 0, api.InOut, 1}, []byte{api.InMove, 2, 1, api.InHalt}
	for _, head := range [][]byte{{api.InJump}, {api.InJumpIf, 4}} {
		for _, x := range [][2][]byte{{nil, nil}, {ahead, nil}, {nil, behind}, {ahead, behind}} {
			for target := range 1 << 16 {
				b := slices.Concat(x[0], head, []byte{byte(target), byte(target >> 8)}, x[1])
				_, e := code.Decode(b)
				want := api.ErrTarget
				if slices.Contains(targets(b), target) {
					want = api.OK
				}
				if e != want {
					t.Fatal(b, target, e)
				}
			}
		}
	}
}

// P13.1: jumps in code of MaxCode bytes, whose end is beyond all addresses.
func TestDecodeTargetsOfLongCode(t *testing.T) {
	for target := range 1030 {
		b := append([]byte{api.InJump, byte(target), byte(target >> 8)}, halts(509)...)
		_, e := code.Decode(b)
		same(t, e == api.OK, target == 0 || target >= 3 && target < 512)
		same(t, e == api.ErrTarget, target == 1 || target == 2 || target >= 512)
	}
	b := append(halts(508), api.InJumpIf, 0, 252, 1) // to 508, itself, the last one
	_, e := code.Decode(b)
	same(t, e, api.OK)
}

// P13.1: each jump's target is asked, not the first one's or the last one's alone.
func TestDecodeEachTarget(t *testing.T) {
	for bad := range 4 {
		var b []byte
		for i := range 4 {
			target := byte(3 * i)
			if i == bad {
				target++
			}
			b = append(b, api.InJump, target, 0)
		}
		decodes(t, b, nil, api.ErrTarget)
	}
}
