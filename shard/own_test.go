package shard_test

import (
	"slices"
	"testing"

	"trivet/api"
	"trivet/shard"
)

// spoil writes over a list, as far as its memory goes.
func spoil[T any](l []T, x T) {
	l = l[:cap(l)]
	for i := range l {
		l[i] = x
	}
}

// keysOf are lists of keys on which sorting, or leaving out, would have to write, and those on which it would not.
func keysOf() [][]api.Key {
	a, b, c := key(-1, 9), key(0, -9), key(7, 7)
	return [][]api.Key{{a}, {a, b, c}, {c, b, a}, {a, a, b}, {c, c, a, a, b}, {a, a, a}, rising()}
}

func pairsOf() [][]api.Pair {
	var out [][]api.Pair
	for _, l := range keysOf() {
		var one []api.Pair
		for i, k := range l {
			one = append(one, api.Pair{Key: k, Value: int64(i)})
		}
		out = append(out, one)
	}
	return out
}

// R3: keys that are handed in stay as they were, also behind their list's end.
func TestKeysStay(t *testing.T) {
	for _, l := range keysOf() {
		l = slices.Grow(l, 8)
		spoil(l[len(l):], key(5, 5))
		was := slices.Clone(l[:cap(l)])
		for parts := range api.MaxParts + 2 {
			shard.Keys(l...)
			shard.Split(parts, l...)
			shard.Has(l, l[0])
			shard.Has(l, key(1000, 1000))
		}
		sameList(t, l[:cap(l)], was)
	}
}

// R3: pairs, and lists of them, that are handed in stay as they were, also behind their list's end.
func TestPairsStay(t *testing.T) {
	for _, l := range pairsOf() {
		l = slices.Grow(l, 8)
		spoil(l[len(l):], pair(5, 5, 5))
		was := slices.Clone(l[:cap(l)])
		shard.Pairs(l...)
		shard.Digest(l...)
		shard.Merge(l)
		shard.Merge(l[:1], l)
		shard.Merge(l, l[:1], nil, l)
		sameList(t, l[:cap(l)], was)
	}
	lists := [][]api.Pair{{pair(2, 2, 2)}, {pair(1, 1, 1)}, nil, {pair(2, 2, 3)}}
	was := slices.Clone(lists)
	shard.Merge(lists...)
	for i, l := range lists {
		sameList(t, l, was[i])
	}
}

// R3: what Keys and Pairs answer is nobody else's, also where l is that already.
func TestAnswersAreNew(t *testing.T) {
	for _, l := range keysOf() {
		was := slices.Clone(l)
		got := shard.Keys(l...)
		again := shard.Keys(l...)
		kept := slices.Clone(again)
		spoil(got, key(5, 5))
		sameList(t, l, was)
		sameList(t, again, kept)
		spoil(l, key(6, 6))
		sameList(t, again, kept)
	}
	for _, do := range []func(l []api.Pair) []api.Pair{
		func(l []api.Pair) []api.Pair { return shard.Pairs(l...) },
		func(l []api.Pair) []api.Pair { return shard.Merge(l) },
		func(l []api.Pair) []api.Pair { return shard.Merge(nil, l) },
		func(l []api.Pair) []api.Pair { return shard.Merge(l, nil) },
		func(l []api.Pair) []api.Pair { return shard.Merge(l, l) },
	} {
		for _, l := range pairsOf() {
			was := slices.Clone(l)
			got, again := do(l), do(l)
			kept := slices.Clone(again)
			spoil(got, pair(5, 5, 5))
			sameList(t, l, was)
			sameList(t, again, kept)
			spoil(l, pair(6, 6, 6))
			sameList(t, again, kept)
		}
	}
}

// R3: each of Split's lists is nobody else's, not another one's of the same answer either, as far as its memory goes.
func TestSplitListsAreApart(t *testing.T) {
	for parts := range api.MaxParts + 2 {
		for _, l := range keysOf() {
			was := slices.Clone(l)
			want := shard.Split(parts, l...)
			for i := range want {
				got := shard.Split(parts, l...)
				spoil(got[i], key(5, 5))
				got[i] = append(got[i], key(6, 6), key(6, 6))
				for j := range want {
					if j != i {
						sameList(t, got[j], want[j])
					}
				}
				sameList(t, l, was)
			}
			kept := shard.Split(parts, l...)
			spoil(l, key(7, 8))
			if !slices.EqualFunc(kept, want, slices.Equal) {
				t.Error(parts, kept, want)
			}
		}
	}
}

// R3: an array of bytes is a value: what is done to one is not seen of another.
func TestBytesAreApart(t *testing.T) {
	b := shard.Bytes(key(1, 2))
	k := shard.From(b)
	b[0], b[11] = 0, 0
	same(t, k, key(1, 2))
	same(t, shard.Bytes(key(1, 2)), [12]byte{128, 0, 0, 1, 128, 0, 0, 0, 0, 0, 0, 2})
}

// THE BOUND: long lists, rising, falling, of one key, and mixed, take no more than near their length.
func TestLongLists(t *testing.T) {
	const n = 1 << 18
	for name, row := range map[string]func(i int) int64{
		"rising":  func(i int) int64 { return int64(i) },
		"falling": func(i int) int64 { return int64(n - i) },
		"one":     func(i int) int64 { return 7 },
		"twice":   func(i int) int64 { return int64(i / 2) },
		"mixed":   func(i int) int64 { return int64(i) * 7919 % 65537 },
	} {
		keys, pairs := make([]api.Key, n), make([]api.Pair, n)
		ones := make([][]api.Pair, n)
		rows := map[int64]int64{}
		for i := range n {
			keys[i] = key(1, row(i))
			pairs[i] = api.Pair{Key: keys[i], Value: int64(i)}
			ones[i] = pairs[i : i+1]
			rows[row(i)] = int64(i)
		}
		for _, got := range [][]api.Pair{shard.Pairs(pairs...), shard.Merge(pairs), shard.Merge(ones...), shard.Merge(pairs, pairs)} {
			if len(got) != len(rows) || !slices.IsSortedFunc(got, func(a, b api.Pair) int { return shard.Compare(a.Key, b.Key) }) {
				t.Fatal(name, len(got))
			}
			for _, p := range got {
				if rows[p.Key.Row] != p.Value {
					t.Fatal(name, p)
				}
			}
		}
		got := shard.Keys(keys...)
		if len(got) != len(rows) || !slices.IsSortedFunc(got, shard.Compare) {
			t.Fatal(name, len(got))
		}
		many := 0
		for _, l := range shard.Split(api.MaxParts, keys...) {
			many += len(l)
		}
		same(t, many, len(rows))
		same(t, shard.Has(keys, key(1, row(n-1))), true)
		same(t, shard.Digest(pairs...), shard.Digest(shard.Pairs(pairs...)...))
	}
}
