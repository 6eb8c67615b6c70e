// Package shape is layer 1: numbers and lists of bytes as bytes, each in one form, and sealed bytes, of which one sees whether they are whole. See shared/doc/01-shape.md.
package shape

import (
	"math/bits"

	"trivet/api"
)

const (
	maxHead   = 17 // the first byte of a number of eight bytes below 0
	minusZero = 1  // a first byte that would give 0 a second form

	checkBytes = 8
	checkStart = 14695981039346656037
	checkTimes = 1099511628211
)

// Num is b and, behind it, the numbers' bytes.
func Num(b []byte, l ...int64) []byte {
	return putNums(copied(b, Size(l...)), l...)
}

// Blob is b and, behind it, d as a blob.
func Blob(b, d []byte) []byte {
	long := int64(len(d))
	return append(putNums(copied(b, Size(long)+len(d)), long), d...)
}

// Size is how many bytes the numbers have in all.
func Size(l ...int64) int {
	n := 0
	for _, x := range l {
		n += 1 + width(magnitude(x))
	}
	return n
}

// TakeNum is the number with which b begins, and how many bytes it has.
func TakeNum(b []byte) (int64, int, api.Errno) {
	return take(b, (*reader).number)
}

// Nums are the first n numbers of b, and what is left of it.
func Nums(b []byte, n int) ([]int64, []byte, api.Errno) {
	l, size, e := take(b, func(r *reader) []int64 { return r.numbers(n) })
	return l, copied(b[size:], 0), e // with an error size is 0: all of b is left
}

// TakeBlob is the blob with which b begins, and how many bytes all of it has.
func TakeBlob(b []byte) ([]byte, int, api.Errno) {
	return take(b, (*reader).blob)
}

// Check is a number of 64 bits that tells lists of bytes from others.
func Check(l ...[]byte) uint64 {
	sum := uint64(checkStart)
	for _, b := range l {
		for _, x := range b {
			sum = (sum ^ uint64(x)) * checkTimes
		}
	}
	return sum
}

// Seal is b as a blob, with its check behind it.
func Seal(b []byte) ([]byte, api.Errno) {
	if len(b) > api.MaxBytes {
		return nil, api.ErrLong
	}
	return putLow(Blob(nil, b), Check(b), checkBytes), api.OK
}

// Unseal is what was sealed of the sealed bytes with which b begins, and how many bytes all of them are.
func Unseal(b []byte) ([]byte, int, api.Errno) {
	return take(b, (*reader).sealed)
}

// copied is a copy of b that has room for so many bytes more.
func copied(b []byte, more int) []byte {
	return append(make([]byte, 0, len(b)+more), b...)
}

// putNums appends numbers to bytes that are the caller's own.
func putNums(b []byte, l ...int64) []byte {
	for _, x := range l {
		u := magnitude(x)
		k := width(u)
		head := byte(2 * k)
		if x < 0 {
			head++
		}
		b = putLow(append(b, head), u, k)
	}
	return b
}

// putLow appends the k lowest bytes of u, the lowest one first.
func putLow(b []byte, u uint64, k int) []byte {
	for range k {
		b = append(b, byte(u))
		u >>= 8
	}
	return b
}

// magnitude is x without its sign; it is unsigned, for that of -2^63 is no int64.
func magnitude(x int64) uint64 {
	if x < 0 {
		return -uint64(x)
	}
	return uint64(x)
}

// width is how many bytes u needs: none, if it is 0.
func width(u uint64) int {
	return (bits.Len64(u) + 7) / 8
}
