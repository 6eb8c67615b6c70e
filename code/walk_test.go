package code_test

import (
	"slices"
	"testing"

	"trivet/api"
	"trivet/code"
)

// walked is what Walk tells, whose addresses are the instructions' own.
func walked(t *testing.T, b []byte) []api.Instr {
	t.Helper()
	var l []api.Instr
	for at, x := range code.Walk(b) {
		same(t, at, x.At)
		l = append(l, x)
	}
	return l
}

// P13.3: Walk of nothing, and of all that is right, also where Decode would refuse a target, or the length.
func TestWalk(t *testing.T) {
	sameList(t, walked(t, nil), nil)
	sameList(t, walked(t, []byte{}), nil)
	sameList(t, walked(t, []byte{1, 2, 255, 255, 24, 2, 0}), []api.Instr{{Op: api.InConst, A: 2, Imm: -1}, {At: 4, Op: api.InOut, A: 2}, {At: 6, Op: api.InHalt}})
	sameList(t, walked(t, []byte{api.InJump, 1, 0, api.InHalt}), []api.Instr{{Op: api.InJump, Imm: 1}, {At: 3, Op: api.InHalt}})
	var all []byte
	var want []api.Instr
	for _, f := range forms() {
		f.x.At = len(all)
		all, want = append(all, f.b...), append(want, f.x)
		sameList(t, walked(t, all), want)
	}
	for _, n := range []int{512, 513, 5000} {
		same(t, len(walked(t, halts(n))), n)
	}
}

// P13.3: it goes on behind instructions that no run goes beyond, and does not follow jumps.
func TestWalkGoesOn(t *testing.T) {
	b := []byte{api.InHalt, api.InAbort, 3, api.InJump, 0, 0, api.InJumpIf, 1, 0, 0, api.InHalt}
	sameList(t, walked(t, b), []api.Instr{{Op: api.InHalt}, {At: 1, Op: api.InAbort, Imm: 3}, {At: 3, Op: api.InJump}, {At: 6, Op: api.InJumpIf, A: 1}, {At: 10, Op: api.InHalt}})
}

// bads are bytes that One refuses.
func bads() [][]byte {
	return [][]byte{{28}, {255}, {api.InOut}, {api.InConst, 0, 0}, {api.InStoreAt, 0, 0}, {api.InOut, 8}, {api.InMove, 0, 8}, {api.InMove, 8, 0}, {api.InNarrow, 0, 0}}
}

// P13.3: Walk of what One refuses at the first, at a later and at the last place: up to there.
func TestWalkUpToTheFirstRefused(t *testing.T) {
	for _, bad := range bads() {
		sameList(t, walked(t, bad), nil)
		for n := range 6 {
			good := slices.Repeat([]byte{api.InMove, 1, 2}, n)
			want := walked(t, good)
			same(t, len(want), n)
			sameList(t, walked(t, slices.Concat(good, bad)), want)
		}
	}
	for _, bad := range [][]byte{{28}, {api.InOut, 8}, {api.InMove, 0, 8}, {api.InNarrow, 0, 0}} { // and nothing behind it, though it be right
		sameList(t, walked(t, append(bad, 0, 0, 0, 0, 0)), nil)
		sameList(t, walked(t, slices.Concat([]byte{0, 0}, bad, []byte{0, 0})), []api.Instr{{}, {At: 1}})
	}
}

// P13.3, R3: it may be left at any point, and gone through again, also while it is gone through.
func TestWalkLeft(t *testing.T) {
	b := []byte{api.InConst, 1, 2, 0, api.InOut, 1, api.InMove, 3, 4, api.InHalt, 99}
	want := walked(t, b)
	same(t, len(want), 4)
	w := code.Walk(b)
	for stop := range 5 {
		for range 2 {
			n := 0
			for at, x := range w {
				if n == stop {
					break
				}
				same(t, at, want[n].At)
				same(t, x, want[n])
				n++
			}
			same(t, n, stop)
		}
	}
	outer := 0
	for at := range w {
		inner := 0
		for range w {
			inner++
		}
		same(t, inner, 4)
		same(t, at, want[outer].At)
		outer++
	}
	same(t, outer, 4)
}

// R1: a panic of who goes through it is not the walk's to catch, and the walk can be gone through again.
func TestWalkLetsPanicsPass(t *testing.T) {
	w := code.Walk([]byte{0, 0})
	func() {
		defer func() { same(t, recover(), any("mine")) }()
		for range w {
			panic("mine")
		}
	}()
	n := 0
	for range w {
		n++
	}
	same(t, n, 2)
}

// P13.3: Targets of no jumps, of one, of several, of the same ones twice, wherever they go.
func TestTargets(t *testing.T) {
	for _, x := range []struct {
		b    []byte
		want []int
	}{
		{nil, nil},
		{[]byte{}, nil},
		{[]byte{api.InConst, 1, 3, 0, api.InAbort, 3, api.InHalt}, nil},
		{[]byte{api.InLoadAt, 1, 2, 3, api.InArg, 0, 9, api.InNarrow, 1, 8}, nil},
		{[]byte{api.InJump, 3, 0, api.InHalt}, []int{3}},
		{[]byte{api.InJump, 0, 0}, []int{0}},
		{[]byte{api.InJumpIf, 7, 0, 0}, []int{0}},
		{[]byte{api.InJump, 1, 0}, []int{1}},
		{[]byte{api.InJump, 3, 0}, []int{3}},
		{[]byte{api.InJumpIf, 1, 255, 255}, []int{65535}},
		{[]byte{api.InJump, 9, 1, api.InJumpIf, 0, 5, 0, api.InJump, 0, 0}, []int{0, 5, 265}},
		{[]byte{api.InJump, 7, 0, api.InJump, 7, 0}, []int{7}},
		{[]byte{api.InJump, 7, 0, api.InJump, 3, 0, api.InJump, 7, 0, api.InJumpIf, 2, 3, 0}, []int{3, 7}},
		{[]byte{api.InHalt, api.InJump, 2, 0, api.InAbort, 1, api.InJump, 1, 0}, []int{1, 2}},
	} {
		sameList(t, code.Targets(x.b), x.want)
	}
}

// P13.3: Targets of jumps ahead of what One refuses, and of none behind it.
func TestTargetsAheadOfTheFirstRefused(t *testing.T) {
	for _, bad := range bads() {
		sameList(t, code.Targets(bad), nil)
		sameList(t, code.Targets(slices.Concat([]byte{api.InJump, 5, 0, api.InJumpIf, 0, 4, 0}, bad)), []int{4, 5})
	}
	sameList(t, code.Targets([]byte{api.InJump, 5, 0, 28, api.InJump, 6, 0}), []int{5})
	sameList(t, code.Targets([]byte{28, api.InJump, 6, 0}), nil)
	sameList(t, code.Targets([]byte{api.InJump, 6, 0, api.InJumpIf, 8, 7, 0}), []int{6})
	sameList(t, code.Targets([]byte{api.InJump, 6, 0, api.InJump, 7}), []int{6})
}

// P13.3: Targets of code above MaxCode bytes, which Walk goes through, too.
func TestTargetsOfLongCode(t *testing.T) {
	var b []byte
	var want []int
	for n := range 1 << 16 {
		target := (n*7919 + 5) % (1 << 16)
		b = append(b, api.InJump, byte(target), byte(target>>8), api.InJumpIf, 1, byte(n), byte(n>>8))
		want = append(want, n)
	}
	sameList(t, code.Targets(b), want)
}

// P13.3: Reach of nothing, of what Decode refuses, of each way on and of each end.
func TestReach(t *testing.T) {
	for _, x := range []struct {
		b    []byte
		want []int
	}{
		{nil, nil},
		{[]byte{}, nil},
		{[]byte{api.InHalt}, []int{0}},
		{[]byte{api.InHalt, api.InHalt, api.InHalt}, []int{0}},
		{[]byte{api.InAbort, 0, api.InHalt}, []int{0}},
		{[]byte{api.InConst, 1, 2, 0}, []int{0}}, // its end is behind the last one
		{[]byte{api.InConst, 1, 2, 0, api.InOut, 1}, []int{0, 4}},
		{[]byte{api.InConst, 1, 2, 0, api.InOut, 1, api.InHalt, api.InHalt}, []int{0, 4, 6}},
		{[]byte{api.InJump, 0, 0}, []int{0}},
		{[]byte{api.InJump, 0, 0, api.InHalt}, []int{0}},
		{[]byte{api.InJump, 3, 0, api.InHalt}, []int{0, 3}},
		{[]byte{api.InJump, 4, 0, api.InHalt, api.InHalt, api.InHalt}, []int{0, 4}},
		{[]byte{api.InJumpIf, 0, 0, 0}, []int{0}},
		{[]byte{api.InJumpIf, 0, 0, 0, api.InHalt}, []int{0, 4}},
		{[]byte{api.InJumpIf, 0, 5, 0, api.InHalt, api.InHalt}, []int{0, 4, 5}},
		{[]byte{api.InJumpIf, 0, 6, 0, api.InHalt, api.InHalt, api.InHalt}, []int{0, 4, 6}},
		{[]byte{api.InOut, 1, api.InJump, 0, 0, api.InHalt}, []int{0, 2}},
		{[]byte{api.InJump, 4, 0, api.InHalt, api.InJump, 3, 0}, []int{0, 3, 4}},       // back to what lies between
		{[]byte{api.InJump, 5, 0, api.InOut, 1, api.InJump, 3, 0}, []int{0, 3, 5}},     // and round and round
		{[]byte{api.InJump, 6, 0, api.InJump, 3, 0, api.InHalt}, []int{0, 6}},          // past one that jumps to itself
		{[]byte{api.InJump, 6, 0, api.InJump, 9, 0, api.InHalt, 0, 0, 0}, []int{0, 6}}, // a jump that nothing comes to does not count
		{[]byte{api.InJumpIf, 0, 9, 0, api.InOut, 1, api.InAbort, 1, 0, 0}, []int{0, 4, 6, 9}},
	} {
		got := code.Reach(x.b)
		if !slices.Equal(got, x.want) {
			t.Errorf("Reach(% d): %v, not %v", x.b, got, x.want)
		}
	}
}

// P13.3: only InHalt, InJump and InAbort have nothing behind them.
func TestReachBehindEach(t *testing.T) {
	for _, f := range forms() {
		if f.x.Op == api.InJump || f.x.Op == api.InJumpIf {
			f.b[len(f.b)-2], f.b[len(f.b)-1] = 0, 0
		}
		want := []int{0, len(f.b)}
		if f.x.Op == api.InHalt || f.x.Op == api.InJump || f.x.Op == api.InAbort {
			want = []int{0}
		}
		sameList(t, code.Reach(append(f.b, api.InHalt)), want)
	}
}

// P13.3: nothing, if Decode refuses it, also where no run comes to what it refuses.
func TestReachRefused(t *testing.T) {
	for _, bad := range append(bads(), []byte{api.InJump, 188, 2}, []byte{api.InJumpIf, 0, 255, 255}, halts(513)) {
		for _, ahead := range [][]byte{nil, {api.InHalt}, {api.InOut, 1, api.InHalt}, {api.InJump, 0, 0}} {
			sameList(t, code.Reach(slices.Concat(ahead, bad)), nil)
		}
	}
}

// P13.3: Reach of code of MaxCode bytes: to its end, in one go, back and forth, and in leaps.
func TestReachOfLongCode(t *testing.T) {
	b := slices.Repeat([]byte{api.InOut, 1}, 256)
	same(t, len(code.Reach(b)), 256)
	var back []byte
	var want []int
	for i := range 170 { // the first one jumps to the last one, each other one to the one ahead of it
		target := (i + 169) % 170 * 3
		back = append(back, api.InJump, byte(target), byte(target>>8))
		want = append(want, 3*i)
	}
	sameList(t, code.Reach(back), want)
	for leap := 1; leap < 100; leap++ {
		var l []byte
		reach := []int{}
		for i := range 128 {
			target := min(i+leap, 127) * 4
			l = append(l, api.InJump, byte(target), byte(target>>8), api.InHalt)
			if i%leap == 0 || i == 127 {
				reach = append(reach, i*4)
			}
		}
		sameList(t, code.Reach(l), reach)
	}
	all := slices.Repeat([]byte{api.InJumpIf, 0, 0, 0}, 128)
	same(t, len(code.Reach(all)), 128)
}
