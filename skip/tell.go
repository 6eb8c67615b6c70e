package skip

import (
	"iter"
	"slices"

	"trivet/api"
)

// Level goes through the keys of a level, rising.
func (s *Skip) Level(n int) iter.Seq[api.Key] {
	var l []api.Key // a copy, for an iterator tells what was there when it was asked for
	for x := range s.level(n) {
		l = append(l, x.cell.Key)
	}
	return slices.Values(l)
}

// From goes through what all keys from k on have, rising.
func (s *Skip) From(k api.Key) iter.Seq[api.Cell] {
	var l []api.Cell // a copy, likewise
	for n := range s.from(k) {
		l = append(l, n.cell)
	}
	return slices.Values(l)
}

// Range is what the keys from one on have that are below another one, rising.
func (s *Skip) Range(from, to api.Key) []api.Cell {
	var l []api.Cell
	for n := range s.from(from) {
		if !below(n.cell.Key, to) {
			break
		}
		l = append(l, n.cell)
	}
	return l
}

// Steps is how many keys a search for one looks at.
func (s *Skip) Steps(k api.Key) int {
	if !s.made() {
		return 0
	}
	_, looks := s.search(k)
	return looks
}

// from goes through the nodes of all keys from k on.
func (s *Skip) from(k api.Key) iter.Seq[*node] {
	if !s.made() {
		return s.level(0)
	}
	return behind(s.ahead(k)[0], 0)
}
