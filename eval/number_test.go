package eval_test

import (
	"math"
	"math/big"
	"math/rand"
	"testing"

	"trivet/api"
	"trivet/eval"
)

// binary fails the test, unless Binary answers that.
func binary(t *testing.T, op int, a, b, want int64, end int) {
	t.Helper()
	if n, e := eval.Binary(op, a, b); n != want || e != end {
		t.Errorf("Binary(%d, %d, %d): %d, %d; want %d, %d", op, a, b, n, e, want, end)
	}
}

// P14.2: each Op, of ordinary numbers and of those at the edges, written out.
func TestBinary(t *testing.T) {
	for _, x := range []struct {
		op         int
		a, b, want int64
	}{
		{api.InAdd, 2, 3, 5}, {api.InAdd, -2, 3, 1}, {api.InAdd, 2, -3, -1}, {api.InAdd, -2, -3, -5}, {api.InAdd, 0, 0, 0},
		{api.InAdd, greatest, 1, least}, {api.InAdd, least, -1, greatest}, {api.InAdd, greatest, greatest, -2}, {api.InAdd, least, least, 0}, {api.InAdd, least, greatest, -1},
		{api.InSub, 2, 3, -1}, {api.InSub, 3, 2, 1}, {api.InSub, -2, 3, -5}, {api.InSub, 2, -3, 5}, {api.InSub, -2, -3, 1},
		{api.InSub, least, 1, greatest}, {api.InSub, greatest, -1, least}, {api.InSub, 0, least, least}, {api.InSub, least, greatest, 1}, {api.InSub, -1, least, greatest},
		{api.InMul, 6, 7, 42}, {api.InMul, -6, 7, -42}, {api.InMul, 6, -7, -42}, {api.InMul, -6, -7, 42}, {api.InMul, 0, least, 0},
		{api.InMul, least, -1, least}, {api.InMul, least, 2, 0}, {api.InMul, greatest, 2, -2}, {api.InMul, greatest, greatest, 1}, {api.InMul, 1 << 32, 1 << 32, 0}, {api.InMul, 1 << 32, 1 << 31, least}, {api.InMul, 3037000500, 3037000500, -9223372036709301616},
		{api.InDiv, 7, 2, 3}, {api.InDiv, -7, 2, -3}, {api.InDiv, 7, -2, -3}, {api.InDiv, -7, -2, 3}, {api.InDiv, 1, 2, 0}, {api.InDiv, -1, 2, 0}, {api.InDiv, 0, 5, 0}, {api.InDiv, 0, -5, 0},
		{api.InDiv, least, -1, least}, {api.InDiv, least, 1, least}, {api.InDiv, least, 2, -1 << 62}, {api.InDiv, least, least, 1}, {api.InDiv, greatest, least, 0}, {api.InDiv, greatest, -1, -greatest}, {api.InDiv, least, greatest, -1},
		{api.InMod, 7, 2, 1}, {api.InMod, -7, 2, -1}, {api.InMod, 7, -2, 1}, {api.InMod, -7, -2, -1}, {api.InMod, 6, 3, 0}, {api.InMod, -6, 3, 0}, {api.InMod, 1, 2, 1}, {api.InMod, -1, 2, -1}, {api.InMod, 0, -5, 0},
		{api.InMod, least, -1, 0}, {api.InMod, least, 1, 0}, {api.InMod, least, least, 0}, {api.InMod, greatest, least, greatest}, {api.InMod, least, greatest, -1}, {api.InMod, greatest, -1, 0}, {api.InMod, least, 3, -2},
		{api.InAnd, 12, 10, 8}, {api.InAnd, -1, 10, 10}, {api.InAnd, least, -1, least}, {api.InAnd, least, greatest, 0}, {api.InAnd, -2, -3, -4},
		{api.InOr, 12, 10, 14}, {api.InOr, -1, 10, -1}, {api.InOr, least, 1, least + 1}, {api.InOr, least, greatest, -1}, {api.InOr, 0, 0, 0},
		{api.InXor, 12, 10, 6}, {api.InXor, -1, 10, -11}, {api.InXor, least, -1, greatest}, {api.InXor, least, least, 0}, {api.InXor, -1, 0, -1},
		{api.InLess, 1, 2, 1}, {api.InLess, 2, 1, 0}, {api.InLess, 2, 2, 0}, {api.InLess, -1, 0, 1}, {api.InLess, 0, -1, 0}, {api.InLess, -2, -1, 1},
		{api.InLess, least, greatest, 1}, {api.InLess, greatest, least, 0}, {api.InLess, least, least, 0}, {api.InLess, greatest, greatest, 0}, {api.InLess, least, least + 1, 1}, {api.InLess, greatest - 1, greatest, 1}, {api.InLess, 1, 1 << 32, 1}, {api.InLess, 0, 0, 0},
		{api.InEqual, 1, 2, 0}, {api.InEqual, 2, 2, 1}, {api.InEqual, 0, 0, 1}, {api.InEqual, -1, 1, 0}, {api.InEqual, 0, 1 << 32, 0},
		{api.InEqual, least, least, 1}, {api.InEqual, greatest, greatest, 1}, {api.InEqual, least, greatest, 0}, {api.InEqual, greatest, -1, 0}, {api.InEqual, least, 0, 0},
	} {
		binary(t, x.op, x.a, x.b, x.want, api.EndOK)
	}
}

// P14.2: shifts by the lowest six bits of b, of numbers of both signs and at both ends.
func TestShifts(t *testing.T) {
	for _, x := range []struct{ a, b, shl, shr, ushr int64 }{
		{1, 0, 1, 1, 1}, {5, 1, 10, 2, 2}, {-8, 1, -16, -4, 1<<63 - 4}, {-1, 1, -2, -1, greatest}, {-7, 1, -14, -4, greatest - 3},
		{1, 62, 1 << 62, 0, 0}, {1, 63, least, 0, 0}, {1, 64, 1, 1, 1}, {1, 65, 2, 0, 0}, {1, -1, least, 0, 0}, {1, least, 1, 1, 1}, {1, -64, 1, 1, 1}, {1, -63, 2, 0, 0}, {1, 1 << 32, 1, 1, 1}, {1, 256, 1, 1, 1}, {1, 257, 2, 0, 0}, {1, greatest, least, 0, 0},
		{-1, 63, least, -1, 1}, {-1, 64, -1, -1, -1}, {-1, 65, -2, -1, greatest}, {-1, -1, least, -1, 1}, {-1, least, -1, -1, -1}, {-1, 0, -1, -1, -1},
		{least, 0, least, least, least}, {least, 1, 0, -1 << 62, 1 << 62}, {least, 62, 0, -2, 2}, {least, 63, 0, -1, 1}, {least, 64, least, least, least}, {least, 65, 0, -1 << 62, 1 << 62}, {least, -1, 0, -1, 1}, {least, least, least, least, least},
		{greatest, 0, greatest, greatest, greatest}, {greatest, 1, -2, 1<<62 - 1, 1<<62 - 1}, {greatest, 62, -1 << 62, 1, 1}, {greatest, 63, least, 0, 0}, {greatest, 64, greatest, greatest, greatest}, {greatest, 65, -2, 1<<62 - 1, 1<<62 - 1}, {greatest, -1, least, 0, 0}, {greatest, least, greatest, greatest, greatest},
	} {
		binary(t, api.InShl, x.a, x.b, x.shl, api.EndOK)
		binary(t, api.InShr, x.a, x.b, x.shr, api.EndOK)
		binary(t, api.InUshr, x.a, x.b, x.ushr, api.EndOK)
	}
}

// P14.2: InDiv and InMod by 0, of numbers of both signs and at both ends; the other Ops are not kept from it.
func TestByZero(t *testing.T) {
	for _, a := range []int64{least, -7, -1, 0, 1, 7, greatest} {
		binary(t, api.InDiv, a, 0, 0, api.EndZero)
		binary(t, api.InMod, a, 0, 0, api.EndZero)
		for _, op := range []int{api.InAdd, api.InSub, api.InOr, api.InXor, api.InShl, api.InShr, api.InUshr} {
			binary(t, op, a, 0, a, api.EndOK)
		}
		binary(t, api.InMul, a, 0, 0, api.EndOK)
		binary(t, api.InAnd, a, 0, 0, api.EndOK)
	}
}

// isBinary tells whether Binary knows an op.
func isBinary(op int) bool {
	return op >= api.InAdd && op <= api.InUshr || op == api.InLess || op == api.InEqual
}

// P14.2: ops that are none of Binary's: the other instructions, numbers below 0 and far off, such as have an Op for their lowest bits among them; that is told ahead of a division by 0.
func TestNoBinary(t *testing.T) {
	l := []int{math.MinInt, math.MinInt + 11, math.MinInt32, -256, -245, -21, -11, -8, -1, 1<<8 + 8, 1<<8 + 11, 1<<16 + 11, 1<<31 + 8, 1<<32 + 8, 1<<32 + 11, math.MaxInt - 1, math.MaxInt}
	for op := -30; op < 300; op++ {
		if !isBinary(op) {
			l = append(l, op)
		}
	}
	for _, op := range l {
		for _, a := range []int64{least, -1, 0, 1, greatest} {
			for _, b := range []int64{least, -1, 0, 1, greatest} {
				binary(t, op, a, b, 0, api.EndCode)
			}
		}
	}
}

// cut is n modulo 2^bits, as a number with a sign.
func cut(n *big.Int, bits uint) int64 {
	all := new(big.Int).Lsh(big.NewInt(1), bits)
	m := new(big.Int).Mod(n, all)
	if m.Bit(int(bits)-1) == 1 {
		m.Sub(m, all)
	}
	return m.Int64()
}

// unsigned is a number's 64 bits as a number from 0 on.
func unsigned(n int64) *big.Int {
	return new(big.Int).Mod(big.NewInt(n), new(big.Int).Lsh(big.NewInt(1), 64))
}

func truth(is bool) int64 {
	if is {
		return 1
	}
	return 0
}

// modelBinary reckons with whole numbers, and cuts what comes of it.
func modelBinary(op int, a, b int64) (int64, int) {
	x, y, z := big.NewInt(a), big.NewInt(b), new(big.Int)
	by := uint(new(big.Int).Mod(y, big.NewInt(64)).Int64())
	if (op == 11 || op == 12) && b == 0 {
		return 0, 3
	}
	switch op {
	case 8:
		z.Add(x, y)
	case 9:
		z.Sub(x, y)
	case 10:
		z.Mul(x, y)
	case 11:
		z.Quo(x, y)
	case 12:
		z.Rem(x, y)
	case 13:
		z.And(x, y)
	case 14:
		z.Or(x, y)
	case 15:
		z.Xor(x, y)
	case 16:
		z.Lsh(x, by)
	case 17:
		z.Rsh(x, by)
	case 18:
		z.Rsh(unsigned(a), by)
	case 20:
		z.SetInt64(truth(x.Cmp(y) < 0))
	case 21:
		z.SetInt64(truth(x.Cmp(y) == 0))
	default:
		return 0, 1
	}
	return cut(z, 64), 0
}

// edges are numbers at the edges of all widths.
func edges() []int64 {
	l := []int64{least, least + 1, greatest - 1, greatest, 0, 3, -3, 7, -7, 10, -10, 0x5555555555555555, -0x5555555555555556}
	for _, n := range []int64{1, 2, 62, 63, 64, 65, 127, 128, 255, 256, 32767, 32768, 65535, 65536, 1<<31 - 1, 1 << 31, 1<<32 - 1, 1 << 32, 3037000499, 3037000500, 1 << 62} {
		l = append(l, n, -n, n+1, -n-1)
	}
	return l
}

// P14.2: each Op of each two numbers at the edges, against whole numbers.
func TestBinaryEdges(t *testing.T) {
	for op := 7; op <= 22; op++ {
		for _, a := range edges() {
			for _, b := range edges() {
				n, end := modelBinary(op, a, b)
				binary(t, op, a, b, n, end)
			}
		}
	}
}

// drawnInt is a number at an edge, or any at all.
func drawnInt(r *rand.Rand) int64 {
	if l := edges(); r.Intn(2) == 0 {
		return l[r.Intn(len(l))]
	}
	return int64(r.Uint64()) >> r.Intn(64)
}

// P14.2: drawn numbers, against whole numbers.
func TestDrawnNumbers(t *testing.T) {
	r := rand.New(rand.NewSource(1))
	for range 100000 {
		op, a, b := r.Intn(30), drawnInt(r), drawnInt(r)
		n, end := modelBinary(op, a, b)
		binary(t, op, a, b, n, end)
		bits := []int64{8, 16, 32, 64, 0, drawnInt(r)}[r.Intn(6)]
		same(t, eval.Narrow(a, bits), modelNarrow(a, bits))
	}
}

// P14.2: the quotient times b and the rest are a, the rest being nearer to 0 than b, with a's sign or none.
func TestQuotientAndRest(t *testing.T) {
	for _, a := range edges() {
		for _, b := range edges() {
			if b == 0 {
				continue
			}
			q, _ := eval.Binary(api.InDiv, a, b)
			m, _ := eval.Binary(api.InMod, a, b)
			x, y := big.NewInt(m), big.NewInt(b)
			if q*b+m != a || x.CmpAbs(y) >= 0 || m != 0 && (m < 0) != (a < 0) {
				t.Error(a, b, q, m)
			}
		}
	}
}

// modelNarrow cuts a whole number.
func modelNarrow(a, bits int64) int64 {
	if bits == 8 || bits == 16 || bits == 32 {
		return cut(big.NewInt(a), uint(bits))
	}
	return a
}

// P14.2: Narrow at both edges of each width and one beyond them, and of bits above the width.
func TestNarrow(t *testing.T) {
	for _, x := range []struct{ a, bits, want int64 }{
		{0, 8, 0}, {1, 8, 1}, {-1, 8, -1}, {127, 8, 127}, {128, 8, -128}, {129, 8, -127}, {-128, 8, -128}, {-129, 8, 127}, {200, 8, -56}, {255, 8, -1}, {256, 8, 0}, {-256, 8, 0}, {0x1280, 8, -128}, {0x127F, 8, 127}, {least, 8, 0}, {greatest, 8, -1},
		{0, 16, 0}, {-1, 16, -1}, {255, 16, 255}, {32767, 16, 32767}, {32768, 16, -32768}, {-32768, 16, -32768}, {-32769, 16, 32767}, {65535, 16, -1}, {65536, 16, 0}, {0x123456, 16, 0x3456}, {least, 16, 0}, {greatest, 16, -1},
		{0, 32, 0}, {-1, 32, -1}, {65535, 32, 65535}, {1<<31 - 1, 32, 1<<31 - 1}, {1 << 31, 32, -1 << 31}, {-1 << 31, 32, -1 << 31}, {-1<<31 - 1, 32, 1<<31 - 1}, {1<<32 - 1, 32, -1}, {1 << 32, 32, 0}, {0x123456789A, 32, 0x3456789A}, {least, 32, 0}, {greatest, 32, -1},
	} {
		same(t, eval.Narrow(x.a, x.bits), x.want)
	}
}

// P14.2: Narrow of bits other than 8, 16 and 32 is the number, whatever their lowest bits are.
func TestNarrowOtherBits(t *testing.T) {
	l := []int64{least, least + 8, -256, -64, -32, -16, -8, -1, 64, 128, 256 + 8, 1<<16 + 16, 1<<32 + 8, 1<<32 + 16, 1<<32 + 32, greatest}
	for bits := range int64(64) {
		if bits != 8 && bits != 16 && bits != 32 {
			l = append(l, bits)
		}
	}
	for _, bits := range l {
		for _, a := range edges() {
			same(t, eval.Narrow(a, bits), a)
		}
	}
}

// P14.2: Narrow of each number at an edge to each width, against whole numbers; twice is once.
func TestNarrowEdges(t *testing.T) {
	for _, bits := range []int64{8, 16, 32} {
		for _, a := range edges() {
			n := eval.Narrow(a, bits)
			same(t, n, modelNarrow(a, bits))
			same(t, eval.Narrow(n, bits), n)
		}
	}
}
