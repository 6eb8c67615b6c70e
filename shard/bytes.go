package shard

import "trivet/api"

// Where the parts of a key stand in its bytes.
const (
	tableBytes = 4
	keyBytes   = 12
)

// The highest bits: turned over, numbers below 0 come ahead of the others as unsigned ones, too.
const (
	tableTurn = 1 << 31
	rowTurn   = 1 << 63
)

// Bytes is a key as twelve bytes, whose order is the keys'.
func Bytes(k api.Key) [12]byte {
	var b [keyBytes]byte
	t, r := uint32(k.Table)^tableTurn, uint64(k.Row)^rowTurn
	for i := tableBytes - 1; i >= 0; i-- {
		b[i] = byte(t)
		t >>= 8
	}
	for i := keyBytes - 1; i >= tableBytes; i-- {
		b[i] = byte(r)
		r >>= 8
	}
	return b
}

// From is the key whose Bytes are b.
func From(b [12]byte) api.Key {
	var t uint32
	var r uint64
	for _, x := range b[:tableBytes] {
		t = t<<8 | uint32(x)
	}
	for _, x := range b[tableBytes:] {
		r = r<<8 | uint64(x)
	}
	return api.Key{Table: int32(t ^ tableTurn), Row: int64(r ^ rowTurn)}
}
