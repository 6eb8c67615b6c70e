package code_test

import (
	"slices"
	"testing"

	"trivet/api"
	"trivet/code"
)

// spoil writes over a list, as far as its memory goes.
func spoil[T any](l []T, x T) {
	l = l[:cap(l)]
	for i := range l {
		l[i] = x
	}
}

// roomy is a list with memory behind its end, that has something in it.
func roomy[T any](l []T, x T) []T {
	l = slices.Grow(slices.Clone(l), 16)
	spoil(l[len(l):], x)
	return l
}

// codes are bytes that Decode takes, and such as it refuses.
func codes() [][]byte {
	return [][]byte{{}, {0}, {1, 2, 255, 255, 24, 2, 0}, {api.InJump, 0, 0}, {api.InJump, 6, 0, api.InJump, 3, 0, api.InJumpIf, 0, 0, 0}, {api.InJump, 1, 0}, {api.InOut, 8}, {0, 99}, {api.InJump, 9, 0, api.InJump, 3, 0, api.InConst, 1}, halts(512), halts(513)}
}

// R3: bytes that are handed in stay as they were, also behind their end.
func TestBytesStay(t *testing.T) {
	for _, b := range codes() {
		b = roomy(b, 77)
		was := slices.Clone(b[:cap(b)])
		for at := range len(b) + 1 {
			code.One(b, at)
		}
		code.Decode(b)
		code.Targets(b)
		code.Reach(b)
		for range code.Walk(b) {
		}
		code.Check(api.Txn{Session: 1, Request: 1, Code: b})
		sameList(t, b[:cap(b)], was)
	}
}

// R3: One, and so all calls, reads nothing behind the end of what is handed in, though there be memory.
func TestNothingBehindTheEndIsRead(t *testing.T) {
	for _, f := range forms() {
		for n := range len(f.b) {
			refused(t, f.b[:n], 0, api.ErrCode)
			sameList(t, walked(t, f.b[:n]), nil)
		}
	}
}

// R3: instructions that are handed in stay as they were, also behind their end.
func TestInstructionsStay(t *testing.T) {
	for _, b := range codes() {
		l := walked(t, b)
		l = roomy(append(l, instr(api.InOut, 3, 0, 0)), instr(api.InHalt, 5, 5, 5))
		for range 2 {
			was := slices.Clone(l[:cap(l)])
			code.Encode(l...)
			sameList(t, l[:cap(l)], was)
			l[len(l)-1].A = 8 // now Encode refuses the last one
		}
	}
}

// R3: a transaction's lists that are handed in stay as they were, whether they rise or not.
func TestTransactionStays(t *testing.T) {
	for _, keys := range append(fallings(), rising(5), rising(16), rising(17)) {
		for _, b := range codes() {
			x := api.Txn{Session: 3, Request: 4, Code: roomy(b, 77), Args: roomy([]int64{3, 1, 2}, 9), Reads: roomy(keys, api.Key{Row: 5}), Writes: roomy(keys, api.Key{Row: 5})}
			was := api.Txn{Code: slices.Clone(x.Code[:cap(x.Code)]), Args: slices.Clone(x.Args[:cap(x.Args)]), Reads: slices.Clone(x.Reads[:cap(x.Reads)]), Writes: slices.Clone(x.Writes[:cap(x.Writes)])}
			code.Check(x)
			sameList(t, x.Code[:cap(x.Code)], was.Code)
			sameList(t, x.Args[:cap(x.Args)], was.Args)
			sameList(t, x.Reads[:cap(x.Reads)], was.Reads)
			sameList(t, x.Writes[:cap(x.Writes)], was.Writes)
		}
	}
}

// apart fails the test, unless what do answers is new memory each time, and hangs on nothing of b afterwards.
func apart[T comparable](t *testing.T, b []byte, x T, do func(b []byte) []T) {
	t.Helper()
	b = slices.Clone(b)
	was := slices.Clone(b)
	got, again := do(b), do(b)
	kept := slices.Clone(again)
	spoil(got, x)
	sameList(t, b, was)
	sameList(t, again, kept)
	sameList(t, do(b), kept)
	spoil(b, 77)
	sameList(t, again, kept)
}

// R3: what is answered is nobody else's.
func TestAnswersAreNew(t *testing.T) {
	for _, b := range codes() {
		apart(t, b, instr(9, 9, 9, 9), func(b []byte) []api.Instr { l, _ := code.Decode(b); return l })
		apart(t, b, 77, code.Targets)
		apart(t, b, 77, code.Reach)
		l := walked(t, b)
		apart(t, nil, 77, func([]byte) []byte { b, _ := code.Encode(l...); return b })
		got, _ := code.Encode(l...)
		kept := slices.Clone(got)
		spoil(l, instr(api.InOut, 1, 0, 0))
		sameList(t, got, kept)
	}
}

// R3: Walk tells what was there when it was asked for, also where the bytes are another's meanwhile.
func TestWalkTellsWhatWas(t *testing.T) {
	for _, b := range codes() {
		want := walked(t, b)
		mine := slices.Clone(b)
		w := code.Walk(mine)
		spoil(mine, 77)
		for range 2 {
			var got []api.Instr
			for _, x := range w {
				got = append(got, x)
				spoil(mine, byte(len(got)))
			}
			sameList(t, got, want)
		}
	}
	mine := []byte{0, 0, 0, 0}
	n := 0
	for range code.Walk(mine) {
		spoil(mine, 255)
		n++
	}
	same(t, n, 4)
}

// R3: an instruction that Walk tells is a value: what is done to it is not seen in what comes.
func TestWalkIsNotLedAstray(t *testing.T) {
	b := []byte{api.InOut, 1, api.InOut, 2, api.InHalt}
	var ats []int
	for at, x := range code.Walk(b) {
		ats = append(ats, at)
		x.At, x.Op, at = 400, api.InConst, 300
	}
	sameList(t, ats, []int{0, 2, 4})
}

// R4, R5: nothing has nothing in it: nil bytes, no instructions, a zero transaction and a zero instruction, which is an InHalt.
func TestOfNothing(t *testing.T) {
	for range 2 {
		refused(t, nil, 0, api.ErrCode)
		decodes(t, nil, nil, api.OK)
		encodes(t, nil, api.OK)
		encodes(t, []byte{0}, api.OK, api.Instr{})
		same(t, code.Check(api.Txn{}), api.ErrArg)
		same(t, len(code.Targets(nil))+len(code.Reach(nil)), 0)
		for range code.Walk(nil) {
			t.Error("there is nothing")
		}
	}
}

// R6: the same calls answer the same, whatever was asked between.
func TestSameAgain(t *testing.T) {
	for _, b := range codes() {
		l, e := code.Decode(b)
		reach, targets := code.Reach(b), code.Targets(b)
		for _, other := range codes() {
			code.Decode(other)
			code.Reach(other)
			decodes(t, b, l, e)
			sameList(t, code.Reach(b), reach)
			sameList(t, code.Targets(b), targets)
		}
	}
}

// THE BOUND: of many bytes and instructions each call takes no more than near their length.
func TestLong(t *testing.T) {
	const many = 1 << 20
	b := slices.Repeat([]byte{api.InJumpIf, 1, 7, 3}, many)
	n := 0
	for range code.Walk(b) {
		n++
	}
	same(t, n, many)
	sameList(t, code.Targets(b), []int{775})
	decodes(t, b, nil, api.ErrLong)
	sameList(t, code.Reach(b), nil)
	one(t, b, 4*many-4, api.Instr{At: 4*many - 4, Op: api.InJumpIf, A: 1, Imm: 775}, 4*many, api.OK)
	same(t, code.Check(api.Txn{Session: 1, Request: 1, Code: b}), api.ErrLong)
	encodes(t, nil, api.ErrLong, slices.Repeat([]api.Instr{instr(api.InJumpIf, 1, 0, 775)}, many)...)
	for range 2000 {
		same(t, len(code.Reach(halts(512))), 1)
	}
}
