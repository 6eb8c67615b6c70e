package eval

import "trivet/api"

// Binary is what an instruction makes of two numbers, and the end that it brings about.
func Binary(op int, a, b int64) (int64, int) {
	if b == 0 && (op == api.InDiv || op == api.InMod) {
		return 0, api.EndZero
	}
	shift := uint8(b) & 63
	switch op {
	case api.InAdd:
		a += b
	case api.InSub:
		a -= b
	case api.InMul:
		a *= b
	case api.InDiv:
		a /= b
	case api.InMod:
		a %= b
	case api.InAnd:
		a &= b
	case api.InOr:
		a |= b
	case api.InXor:
		a ^= b
	case api.InShl:
		a <<= shift
	case api.InShr:
		a >>= shift
	case api.InUshr:
		a = int64(uint64(a) >> shift)
	case api.InLess:
		a = flag(a < b)
	case api.InEqual:
		a = flag(a == b)
	default:
		return 0, api.EndCode
	}
	return a, api.EndOK
}

// Narrow are a number's lowest bits, the highest one of them being the sign; or the number, if it is not cut to so many bits.
func Narrow(a int64, bits int64) int64 {
	switch bits {
	case 8:
		return int64(int8(a))
	case 16:
		return int64(int16(a))
	case 32:
		return int64(int32(a))
	}
	return a
}

func flag(is bool) int64 {
	if is {
		return 1
	}
	return 0
}
