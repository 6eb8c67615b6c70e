package shard_test

import (
	"bytes"
	"math"
	"math/big"
	"math/rand"
	"slices"
	"testing"

	"trivet/api"
	"trivet/shard"
)

// bits is a number of 64 bits as the chapter speaks of it: whole numbers, cut where it says so.
func bits(n *big.Int) *big.Int {
	return n.Mod(n, new(big.Int).Lsh(big.NewInt(1), 64))
}

func modelMix(x *big.Int) *big.Int {
	x = new(big.Int).Xor(x, bits(new(big.Int).Lsh(x, 13)))
	x = new(big.Int).Xor(x, new(big.Int).Rsh(x, 7))
	return new(big.Int).Xor(x, bits(new(big.Int).Lsh(x, 17)))
}

func sum(l ...*big.Int) *big.Int {
	s := new(big.Int)
	for _, n := range l {
		s.Add(s, n)
	}
	return bits(s)
}

func modelHash(k api.Key) *big.Int {
	t := new(big.Int).Mod(big.NewInt(int64(k.Table)), big.NewInt(1<<32))
	r := bits(big.NewInt(k.Row))
	start, _ := new(big.Int).SetString("9E3779B97F4A7C15", 16)
	inner := modelMix(sum(modelMix(sum(r, start)), t))
	return modelMix(sum(inner, new(big.Int).Rsh(r, 32), new(big.Int).Lsh(t, 32)))
}

func modelPart(k api.Key, parts int) int {
	if parts < 2 {
		return 0
	}
	if parts > 8 {
		parts = 8
	}
	n := new(big.Int).Rsh(modelHash(k), 32)
	n.Mul(n, big.NewInt(int64(parts)))
	return int(n.Rsh(n, 32).Int64())
}

func modelLess(a, b api.Key) bool {
	if a.Table != b.Table {
		return a.Table < b.Table
	}
	return a.Row < b.Row
}

// modelPairs puts the pairs one by one to where they belong.
func modelPairs(l []api.Pair) []api.Pair {
	var out []api.Pair
	for _, p := range l {
		i := 0
		for i < len(out) && modelLess(out[i].Key, p.Key) {
			i++
		}
		if i < len(out) && out[i].Key == p.Key {
			out[i].Value = p.Value
		} else {
			out = slices.Insert(out, i, p)
		}
	}
	return out
}

func modelKeys(l []api.Key) []api.Key {
	var pairs []api.Pair
	for _, k := range l {
		pairs = append(pairs, api.Pair{Key: k})
	}
	var out []api.Key
	for _, p := range modelPairs(pairs) {
		out = append(out, p.Key)
	}
	return out
}

func modelDigest(l []api.Pair) uint64 {
	d := new(big.Int)
	for _, p := range modelPairs(l) {
		d = modelMix(sum(d, modelHash(p.Key)))
		d = modelMix(sum(d, bits(big.NewInt(p.Value)), big.NewInt(1)))
	}
	return d.Uint64()
}

// drawnKey is a key out of few, or one at an edge, or any at all.
func drawnKey(r *rand.Rand) api.Key {
	switch r.Intn(4) {
	case 0:
		l := rising()
		return l[r.Intn(len(l))]
	case 1:
		return key(int32(r.Uint32()), int64(r.Uint64()))
	case 2:
		return key(int32(r.Uint32())>>r.Intn(32), int64(r.Uint64())>>r.Intn(64))
	}
	return key(int32(r.Intn(3)-1), int64(r.Intn(5)-2))
}

func drawnKeys(r *rand.Rand, most int) []api.Key {
	var l []api.Key
	for range r.Intn(most + 1) {
		l = append(l, drawnKey(r))
	}
	return l
}

func drawnPairs(r *rand.Rand, most int) []api.Pair {
	var l []api.Pair
	for _, k := range drawnKeys(r, most) {
		l = append(l, api.Pair{Key: k, Value: int64(r.Uint64()) >> r.Intn(64)})
	}
	return l
}

// P11.1, P11.2, P11.3, P11.5: drawn keys, one by one and two by two: their order, their bytes, their hashes and partitions.
func TestDrawnKeys(t *testing.T) {
	r := rand.New(rand.NewSource(1))
	for range 20000 {
		a, b := drawnKey(r), drawnKey(r)
		want := 0
		switch {
		case modelLess(a, b):
			want = -1
		case modelLess(b, a):
			want = 1
		}
		x, y := shard.Bytes(a), shard.Bytes(b)
		if shard.Compare(a, b) != want || bytes.Compare(x[:], y[:]) != want || shard.From(x) != a || shard.From(y) != b {
			t.Fatal(a, b, x, y)
		}
		if shard.Hash(a) != modelHash(a).Uint64() {
			t.Fatal(a, shard.Hash(a), modelHash(a))
		}
		parts := []int{math.MinInt, -1, 9, 12, math.MaxInt, 0, 1, 2, 3, 4, 5, 6, 7, 8}[r.Intn(14)]
		if shard.Part(a, parts) != modelPart(a, parts) {
			t.Fatal(a, parts, shard.Part(a, parts))
		}
	}
}

// P11.2, P11.5: any twelve bytes are those of one key, and the order of two of them is their keys'.
func TestDrawnBytes(t *testing.T) {
	r := rand.New(rand.NewSource(2))
	for range 20000 {
		var x, y [12]byte
		r.Read(x[:])
		y = x
		r.Read(y[r.Intn(12):])
		a, b := shard.From(x), shard.From(y)
		if shard.Bytes(a) != x || shard.Bytes(b) != y || shard.Compare(a, b) != bytes.Compare(x[:], y[:]) {
			t.Fatal(x, y, a, b)
		}
	}
}

// P11.1, P11.3, P11.6, R6: drawn lists of keys: what Keys, Has and Split say of them, twice the same.
func TestDrawnLists(t *testing.T) {
	for seed := range int64(2000) {
		r := rand.New(rand.NewSource(seed))
		l, parts := drawnKeys(r, 40), r.Intn(12)-1
		want := modelKeys(l)
		lists := make([][]api.Key, min(max(parts, 1), 8))
		for _, k := range want {
			i := modelPart(k, parts)
			lists[i] = append(lists[i], k)
		}
		for range 2 {
			if got := shard.Keys(l...); !slices.Equal(got, want) {
				t.Fatal(seed, got, want)
			}
			if got := shard.Split(parts, l...); !slices.EqualFunc(got, lists, slices.Equal) {
				t.Fatal(seed, parts, got, lists)
			}
		}
		k, has := drawnKey(r), false
		for _, x := range l {
			has = has || x.Table == k.Table && x.Row == k.Row
		}
		if shard.Has(l, k) != has {
			t.Fatal(seed, l, k)
		}
	}
}

// P11.1, P11.4, R6: drawn lists of pairs: what Pairs, Merge and Digest say of them, twice the same.
func TestDrawnPairs(t *testing.T) {
	for seed := range int64(2000) {
		r := rand.New(rand.NewSource(seed))
		var lists [][]api.Pair
		var all []api.Pair
		for range r.Intn(5) {
			l := drawnPairs(r, 12)
			lists, all = append(lists, l), append(all, l...)
		}
		want := modelPairs(all)
		for range 2 {
			if got := shard.Pairs(all...); !slices.Equal(got, want) {
				t.Fatal(seed, got, want)
			}
			if got := shard.Merge(lists...); !slices.Equal(got, want) {
				t.Fatal(seed, got, want)
			}
			if shard.Digest(all...) != modelDigest(all) {
				t.Fatal(seed, all)
			}
		}
		r.Shuffle(len(want), func(i, j int) { want[i], want[j] = want[j], want[i] })
		if shard.Digest(want...) != modelDigest(all) {
			t.Fatal(seed, "in another order", want)
		}
	}
}

// P11.4: lists that are other maps have, as far as is drawn here, other digests.
func TestDigestsDiffer(t *testing.T) {
	r := rand.New(rand.NewSource(3))
	known := map[uint64][]api.Pair{}
	for range 5000 {
		l := modelPairs(drawnPairs(r, 6))
		d := shard.Digest(l...)
		if was, has := known[d]; has && !slices.Equal(was, l) {
			t.Fatal(d, was, l)
		}
		known[d] = l
	}
}
