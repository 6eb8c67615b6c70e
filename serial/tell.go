package serial

import (
	"cmp"
	"iter"
	"slices"

	"trivet/api"
)

// Slot is the slot that comes next.
func (s *Serial) Slot() int64 {
	if !s.made() {
		return 0
	}
	return s.slot
}

// Get is a key's cell, and whether it has one.
func (s *Serial) Get(k api.Key) (api.Cell, bool) {
	if !s.made() {
		return api.Cell{}, false
	}
	c, has := s.cells[k]
	return c, has
}

// Cells goes through the cells that there are now, by rising keys.
func (s *Serial) Cells() iter.Seq[api.Cell] {
	var l []api.Cell
	if s.made() {
		l = rising(s.cells)
	}
	return slices.Values(l)
}

// Rows is the sessions' rows, by rising sessions.
func (s *Serial) Rows() []api.Row {
	if !s.made() {
		return nil
	}
	var l []api.Row
	for _, row := range s.rows {
		l = append(l, copied(row))
	}
	slices.SortFunc(l, func(a, b api.Row) int { return cmp.Compare(a.Session, b.Session) })
	return l
}

// copied is a row in memory of its own.
func copied(row api.Row) api.Row {
	row.Result.Values = slices.Clone(row.Result.Values)
	return row
}
