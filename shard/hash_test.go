package shard_test

import (
	"math"
	"slices"
	"testing"

	"trivet/api"
	"trivet/shard"
)

// P11.3: Hash, and Part of 0 to 8 partitions, held against numbers that were reckoned elsewhere by the chapter's words.
func TestHash(t *testing.T) {
	for _, x := range []struct {
		table int32
		row   int64
		hash  uint64
		parts [9]int
	}{
		{0, 0, 0x7B07CE91E5906136, [9]int{0, 0, 0, 1, 1, 2, 2, 3, 3}},
		{0, 1, 0xD624C3E45E182F0D, [9]int{0, 0, 1, 2, 3, 4, 5, 5, 6}},
		{1, 0, 0x8A816158F7915DF4, [9]int{0, 0, 1, 1, 2, 2, 3, 3, 4}},
		{0, -1, 0x1F6949013594675E, [9]int{0, 0, 0, 0, 0, 0, 0, 0, 0}},
		{-1, 0, 0x88884059F7957577, [9]int{0, 0, 1, 1, 2, 2, 3, 3, 4}},
		{-1, -1, 0xB4089DAA60AECD04, [9]int{0, 0, 1, 2, 2, 3, 4, 4, 5}},
		{1, 1, 0x05AA7F255C193B4C, [9]int{0, 0, 0, 0, 0, 0, 0, 0, 0}},
		{7, 42, 0xA581F0F04E409E01, [9]int{0, 0, 1, 1, 2, 3, 3, 4, 5}},
		{-7, 42, 0x607825D8E2444588, [9]int{0, 0, 0, 1, 1, 1, 2, 2, 3}},
		{7, -42, 0x374F30F36E667160, [9]int{0, 0, 0, 0, 0, 1, 1, 1, 1}},
		{-7, -42, 0xE01AC7E24C7847C1, [9]int{0, 0, 1, 2, 3, 4, 5, 6, 7}},
		{maxTable, maxRow, 0x2B55FF4867A8CD04, [9]int{0, 0, 0, 0, 0, 0, 1, 1, 1}},
		{minTable, minRow, 0xC04ABC72E2926136, [9]int{0, 0, 1, 2, 3, 3, 4, 5, 6}},
		{maxTable, minRow, 0x11CC91B7E8937577, [9]int{0, 0, 0, 0, 0, 0, 0, 0, 0}},
		{minTable, maxRow, 0x452B4761B496675E, [9]int{0, 0, 0, 0, 1, 1, 1, 1, 2}},
		{0, 1 << 32, 0x70A6F42B101E5977, [9]int{0, 0, 0, 1, 1, 2, 2, 3, 3}},
		{0, -1 << 32, 0x3D1AFCB9B51209F5, [9]int{0, 0, 0, 0, 0, 1, 1, 1, 1}},
		{3, 123456789012345, 0x195146B1BD852385, [9]int{0, 0, 0, 0, 0, 0, 0, 0, 0}},
	} {
		k := key(x.table, x.row)
		same(t, shard.Hash(k), x.hash)
		for parts, want := range x.parts {
			same(t, shard.Part(k, parts), want)
		}
	}
}

// P11.3: below 2 partitions each key is the first one's; more than MaxParts count as MaxParts.
func TestPartEdges(t *testing.T) {
	for _, k := range rising() {
		for _, parts := range []int{math.MinInt, math.MinInt32, -8, -2, -1, 0, 1} {
			same(t, shard.Part(k, parts), 0)
		}
		most := shard.Part(k, api.MaxParts)
		for _, parts := range []int{9, 10, 16, 1 << 31, 1 << 32, 1<<32 + 1, math.MaxInt} {
			same(t, shard.Part(k, parts), most)
		}
		for parts := 2; parts <= api.MaxParts; parts++ {
			if got := shard.Part(k, parts); got < 0 || got >= parts {
				t.Error(k, parts, got)
			}
		}
	}
}

// P11.3: each partition has keys, of any number of them.
func TestPartsAreUsed(t *testing.T) {
	for parts := 1; parts <= api.MaxParts; parts++ {
		var has [api.MaxParts]int
		for row := range int64(1000) {
			has[shard.Part(key(1, row), parts)]++
		}
		for i, n := range has {
			if (n > 0) != (i < parts) {
				t.Error(parts, has)
				break
			}
		}
	}
}

// P11.3, R4: Split answers as many lists as partitions, of the keys that Part says, rising, each key once.
func TestSplit(t *testing.T) {
	a, b, c, d := key(0, -1), key(0, 0), key(0, 1), key(1, 0) // of four: 0, 1, 3 and 2
	for _, x := range []struct {
		parts int
		l     []api.Key
		want  [][]api.Key
	}{
		{math.MinInt, nil, [][]api.Key{nil}},
		{-1, nil, [][]api.Key{nil}},
		{0, nil, [][]api.Key{nil}},
		{1, nil, [][]api.Key{nil}},
		{1, []api.Key{}, [][]api.Key{nil}},
		{2, nil, [][]api.Key{nil, nil}},
		{8, nil, make([][]api.Key, 8)},
		{9, nil, make([][]api.Key, 8)},
		{math.MaxInt, nil, make([][]api.Key, 8)},
		{math.MinInt, []api.Key{d, b}, [][]api.Key{{b, d}}},
		{-1, []api.Key{d, b}, [][]api.Key{{b, d}}},
		{0, []api.Key{d, b, d}, [][]api.Key{{b, d}}},
		{1, []api.Key{d, c, b, a}, [][]api.Key{{a, b, c, d}}},
		{2, []api.Key{d, c, b, a}, [][]api.Key{{a, b}, {c, d}}},
		{2, []api.Key{d, c, d, c}, [][]api.Key{nil, {c, d}}},
		{4, []api.Key{d, c, b, a}, [][]api.Key{{a}, {b}, {d}, {c}}},
		{4, []api.Key{c}, [][]api.Key{nil, nil, nil, {c}}},
		{4, []api.Key{c, c, c}, [][]api.Key{nil, nil, nil, {c}}},
		{8, []api.Key{d, c, b, a}, [][]api.Key{{a}, nil, nil, {b}, {d}, nil, {c}, nil}},
		{9, []api.Key{d, c, b, a}, [][]api.Key{{a}, nil, nil, {b}, {d}, nil, {c}, nil}},
		{1 << 32, []api.Key{d, c, b, a}, [][]api.Key{{a}, nil, nil, {b}, {d}, nil, {c}, nil}},
		{math.MaxInt, []api.Key{d, c, b, a}, [][]api.Key{{a}, nil, nil, {b}, {d}, nil, {c}, nil}},
	} {
		if got := shard.Split(x.parts, x.l...); !slices.EqualFunc(got, x.want, slices.Equal) {
			t.Error(x.parts, x.l, got)
		}
	}
}

// P11.6: each key is in one of Split's lists, once, and that is the one that Part says.
func TestSplitOfEdges(t *testing.T) {
	l := rising()
	for parts := -1; parts <= api.MaxParts+2; parts++ {
		got := shard.Split(parts, append(slices.Clone(l), l...)...)
		for _, k := range l {
			for i, one := range got {
				same(t, shard.Has(one, k), i == shard.Part(k, parts))
			}
		}
		var all []api.Key
		for _, one := range got {
			same(t, slices.IsSortedFunc(one, shard.Compare), true)
			all = append(all, one...)
		}
		same(t, len(all), len(l))
	}
}

// P11.4, R4: Digest, held against numbers that were reckoned elsewhere by the chapter's words.
func TestDigest(t *testing.T) {
	for _, x := range []struct {
		l    []api.Pair
		want uint64
	}{
		{nil, 0},
		{[]api.Pair{}, 0},
		{[]api.Pair{{}}, 0x2CEB16E0E1476AAD},
		{[]api.Pair{pair(0, 0, -1)}, 0x2CEB16E0A1C54AEC},
		{[]api.Pair{pair(0, 0, 1)}, 0x2CEB16E020C10A6E},
		{[]api.Pair{pair(1, 2, 3)}, 0xCC3AAD86F79A40B0},
		{[]api.Pair{pair(1, 2, 3), pair(4, 5, 6)}, 0x28212E00992007D8},
		{[]api.Pair{pair(4, 5, 6), pair(1, 2, 3)}, 0x28212E00992007D8},
		{[]api.Pair{pair(1, 2, 9), pair(4, 5, 6), pair(1, 2, 3)}, 0x28212E00992007D8},
		{[]api.Pair{pair(-1, -2, -3)}, 0x550286F01B20776B},
		{[]api.Pair{pair(-1, -2, -3), pair(1, 2, 3)}, 0xB13F136D16F1764F},
		{[]api.Pair{pair(1, 2, 3), pair(-1, -2, -3)}, 0xB13F136D16F1764F},
		{[]api.Pair{pair(minTable, minRow, minRow), pair(maxTable, maxRow, maxRow)}, 0xF6C92BA787F0B434},
		{[]api.Pair{pair(1, 2, 3), pair(1, 2, 3)}, 0xCC3AAD86F79A40B0},
		{[]api.Pair{pair(1, 2, 4), pair(1, 2, 3)}, 0xCC3AAD86F79A40B0},
	} {
		if got := shard.Digest(x.l...); got != x.want {
			t.Errorf("%v: %X, not %X", x.l, got, x.want)
		}
	}
}
