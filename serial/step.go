package serial

import (
	"slices"

	"trivet/api"
	"trivet/eval"
	"trivet/shard"
)

// Step is what one transaction does to cells. Those that do not rise are answered as they came.
func Step(t api.Txn, slot int64, place int, m []api.Cell) (api.Result, []api.Cell) {
	cells := map[api.Key]api.Cell{}
	for _, c := range m {
		cells[c.Key] = c
	}
	r := step(t, slot, place, cells)
	if !rise(m) {
		return r, slices.Clone(m)
	}
	return r, rising(cells)
}

// step does a transaction on the cells of a map. It looks at no others than those that the transaction names, so that a machine need not go through all that it has.
func step(t api.Txn, slot int64, place int, cells map[api.Key]api.Cell) api.Result {
	o := eval.Run(t, read(t, cells), api.MaxFuel)
	for _, c := range o.Changes { // of what aborts there are none
		if c.Erase {
			delete(cells, c.Key)
		} else {
			cells[c.Key] = api.Cell{Key: c.Key, Value: c.Value, Slot: slot}
		}
	}
	return api.Result{End: o.End, Values: o.Values, Slot: slot, Place: place}
}

// read is the pairs of a transaction's Reads that there are.
func read(t api.Txn, cells map[api.Key]api.Cell) []api.Pair {
	var l []api.Pair
	for _, k := range t.Reads {
		if c, has := cells[k]; has {
			l = append(l, api.Pair{Key: k, Value: c.Value})
		}
	}
	return l
}

// rise tells whether the keys of cells rise, each once.
func rise(l []api.Cell) bool {
	for i := 1; i < len(l); i++ {
		if shard.Compare(l[i-1].Key, l[i].Key) >= 0 {
			return false
		}
	}
	return true
}

// rising is the cells of a map, sorted, for nothing may hang on the order in which a map is gone through.
func rising(m map[api.Key]api.Cell) []api.Cell {
	var l []api.Cell
	for _, c := range m {
		l = append(l, c)
	}
	slices.SortFunc(l, func(a, b api.Cell) int { return shard.Compare(a.Key, b.Key) })
	return l
}
