package shard

import "trivet/api"

// start keeps the key of only noughts from a Hash of 0, which mix would leave as it is.
const start = 0x9E3779B97F4A7C15

// mix goes on from a number of 64 bits to another one, no two to the same.
func mix(x uint64) uint64 {
	x ^= x << 13
	x ^= x >> 7
	x ^= x << 17
	return x
}

// Hash is a number of 64 bits that is the key's everywhere.
func Hash(k api.Key) uint64 {
	t, r := uint64(uint32(k.Table)), uint64(k.Row) // by way of 32 bits: a table below 0 brings no ones above them
	return mix(mix(mix(r+start)+t) + r>>32 + t<<32)
}

// Part is the partition, of so many, that a key belongs to. (Of one it is 0 without being asked for: nothing of 32 bits is left behind the shift.)
func Part(k api.Key, parts int) int {
	upper := Hash(k) >> 32
	return int(upper * uint64(many(parts)) >> 32)
}

// Split is the keys of each partition, rising, each once.
func Split(parts int, l ...api.Key) [][]api.Key {
	out := make([][]api.Key, many(parts))
	for _, k := range Keys(l...) {
		i := Part(k, parts)
		out[i] = append(out[i], k)
	}
	return out
}

// Digest is a number of l as a map: of the same pairs it is the same, in whatever order they come.
func Digest(l ...api.Pair) uint64 {
	var d uint64
	for _, p := range Pairs(l...) {
		d = mix(d + Hash(p.Key))
		d = mix(d + uint64(p.Value) + 1)
	}
	return d
}

// many is how many partitions a number of them counts as.
func many(parts int) int { return min(max(parts, 1), api.MaxParts) }
