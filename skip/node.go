package skip

import (
	"iter"
	"math/bits"

	"trivet/api"
)

// node is a key's place on the levels below its height, with its ways onward by levels.
type node struct {
	cell   api.Cell
	height int
	next   [api.MaxHeight]*node
}

// nodes are, of each level, the last one whose key is below a key that is looked for, or the head.
type nodes [api.MaxHeight]*node

// holder is the node of the key that was looked for, or nil.
func (l nodes) holder(k api.Key) *node {
	if n := l[0].next[0]; n != nil && n.cell.Key == k {
		return n
	}
	return nil
}

// ahead are the nodes behind which k stands, or would stand.
func (s *Skip) ahead(k api.Key) nodes {
	if s.many > 0 && below(s.last[0].cell.Key, k) {
		return s.last
	}
	l, _ := s.search(k)
	return l
}

// search goes from the highest level down; it answers where it went down, and how many keys it looked at. Levels without a key cost it nothing.
func (s *Skip) search(k api.Key) (nodes, int) {
	var l nodes
	at, looks := s.head, 0
	for i := range api.MaxHeight {
		level := api.MaxHeight - 1 - i
		for n := range behind(at, level) {
			looks++
			if !below(n.cell.Key, k) {
				break
			}
			at = n
		}
		l[level] = at
	}
	return l, looks
}

// behind goes through the nodes that follow one on a level, as they stand while it goes.
func behind(n *node, level int) iter.Seq[*node] {
	return func(yield func(*node) bool) {
		for x := n.next[level]; x != nil; x = x.next[level] {
			if !yield(x) {
				return
			}
		}
	}
}

// level goes through all nodes of a level; there are none of a level that may not be, and of a store that no call made.
func (s *Skip) level(level int) iter.Seq[*node] {
	if !s.made() || level < 0 || level >= api.MaxHeight {
		return func(func(*node) bool) {}
	}
	return behind(s.head, level)
}

// insert puts a new node behind those that stand ahead of its key.
func (s *Skip) insert(ahead nodes, c api.Cell, height int) {
	n := &node{cell: c, height: height}
	for level := range height {
		n.next[level] = ahead[level].next[level]
		ahead[level].next[level] = n
		if s.last[level] == ahead[level] {
			s.last[level] = n
		}
	}
	s.many++
}

// remove takes a node from behind those that stand ahead of its key.
func (s *Skip) remove(ahead nodes, n *node) {
	for level := range n.height {
		ahead[level].next[level] = n.next[level]
		if s.last[level] == n {
			s.last[level] = ahead[level]
		}
	}
	s.many--
}

// draw is the next height.
func (s *Skip) draw() int {
	s.luck ^= s.luck << 13
	s.luck ^= s.luck >> 7
	s.luck ^= s.luck << 17
	return min(1+bits.TrailingZeros64(^s.luck), api.MaxHeight)
}
