package shard_test

import (
	"bytes"
	"slices"
	"testing"

	"trivet/api"
	"trivet/shard"
)

// P11.2: the bytes of keys, and the key of the bytes.
func TestBytes(t *testing.T) {
	for _, x := range []struct {
		k api.Key
		b [12]byte
	}{
		{key(0, 0), [12]byte{128, 0, 0, 0, 128, 0, 0, 0, 0, 0, 0, 0}},
		{key(1, 0), [12]byte{128, 0, 0, 1, 128, 0, 0, 0, 0, 0, 0, 0}},
		{key(0, 1), [12]byte{128, 0, 0, 0, 128, 0, 0, 0, 0, 0, 0, 1}},
		{key(-1, 0), [12]byte{127, 255, 255, 255, 128, 0, 0, 0, 0, 0, 0, 0}},
		{key(0, -1), [12]byte{128, 0, 0, 0, 127, 255, 255, 255, 255, 255, 255, 255}},
		{key(-1, -1), [12]byte{127, 255, 255, 255, 127, 255, 255, 255, 255, 255, 255, 255}},
		{key(minTable, minRow), [12]byte{}},
		{key(maxTable, maxRow), [12]byte{255, 255, 255, 255, 255, 255, 255, 255, 255, 255, 255, 255}},
		{key(minTable, maxRow), [12]byte{4: 255, 5: 255, 6: 255, 7: 255, 8: 255, 9: 255, 10: 255, 11: 255}},
		{key(maxTable, minRow), [12]byte{255, 255, 255, 255}},
		{key(0x01020304, 0x05060708090A0B0C), [12]byte{129, 2, 3, 4, 133, 6, 7, 8, 9, 10, 11, 12}},
		{key(-0x01020304, -0x05060708090A0B0C), [12]byte{126, 253, 252, 252, 122, 249, 248, 247, 246, 245, 244, 244}},
	} {
		same(t, shard.Bytes(x.k), x.b)
		same(t, shard.From(x.b), x.k)
	}
}

// P11.5: From of Bytes is the key, Bytes of From the bytes, whichever bytes they are.
func TestThereAndBack(t *testing.T) {
	for _, k := range rising() {
		same(t, shard.From(shard.Bytes(k)), k)
	}
	for _, fill := range []byte{0, 1, 127, 128, 129, 254, 255} {
		for at := range 12 {
			for x := range 256 {
				var b [12]byte
				for i := range b {
					b[i] = fill
				}
				b[at] = byte(x)
				same(t, shard.Bytes(shard.From(b)), b)
			}
		}
	}
}

// P11.2, P11.5: arrays of bytes have the order of the keys, at all edges.
func TestBytesOrder(t *testing.T) {
	l := rising()
	for _, a := range l {
		x := shard.Bytes(a)
		for _, b := range l {
			y := shard.Bytes(b)
			if bytes.Compare(x[:], y[:]) != shard.Compare(a, b) {
				t.Fatal(a, x, b, y)
			}
		}
	}
}

// P11.2: each bit of a key is one of its bytes, in its own place, so that no two keys have the same ones.
func TestBytesBits(t *testing.T) {
	zero := shard.Bytes(api.Key{})
	turned := func(bit int) [12]byte { // the bit, counted from the highest one on
		b := zero
		b[bit/8] ^= 128 >> (bit % 8)
		return b
	}
	for bit := range 32 {
		same(t, shard.Bytes(key(int32(uint32(1)<<(31-bit)), 0)), turned(bit))
	}
	for bit := range 64 {
		same(t, shard.Bytes(key(0, int64(uint64(1)<<(63-bit)))), turned(32+bit))
	}
}

// P11.5: keys that are sorted by their bytes are sorted.
func TestSortedByBytes(t *testing.T) {
	l := rising()
	mixed := slices.Clone(l)
	slices.Reverse(mixed)
	slices.SortFunc(mixed, func(a, b api.Key) int {
		x, y := shard.Bytes(a), shard.Bytes(b)
		return bytes.Compare(x[:], y[:])
	})
	sameList(t, mixed, l)
}
