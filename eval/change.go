package eval

import (
	"slices"

	"trivet/api"
	"trivet/shard"
)

// Changes are changes by keys, of several of one key the last one.
func Changes(l ...api.Change) []api.Change {
	last := map[api.Key]api.Change{}
	for _, c := range l {
		last[c.Key] = c
	}
	return rising(last)
}

// rising is the changes of a map, sorted, for nothing may hang on the order in which a map is gone through.
func rising(m map[api.Key]api.Change) []api.Change {
	var l []api.Change
	for _, c := range m {
		l = append(l, c)
	}
	slices.SortFunc(l, func(a, b api.Change) int { return shard.Compare(a.Key, b.Key) })
	return l
}

// Apply is a map behind changes.
func Apply(m []api.Pair, l ...api.Change) []api.Pair {
	values := byKey(m)
	for _, c := range l {
		if c.Erase {
			delete(values, c.Key)
		} else {
			values[c.Key] = c.Value
		}
	}
	var out []api.Pair
	for k, v := range values {
		out = append(out, api.Pair{Key: k, Value: v})
	}
	return shard.Pairs(out...)
}

// byKey is the values of pairs by their keys, of several of one key the last one.
func byKey(l []api.Pair) map[api.Key]int64 {
	m := map[api.Key]int64{}
	for _, p := range l {
		m[p.Key] = p.Value
	}
	return m
}
