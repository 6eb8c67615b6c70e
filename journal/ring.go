package journal

import (
	"iter"

	"trivet/api"
	"trivet/flash"
)

// ring is the blocks of a flash in which pages stand by their numbers, round by round.
type ring struct {
	flash  *flash.Flash
	region api.Region
}

// place is where a page stands: the block, counted from the region's first one on, and the place there.
type place struct{ block, page int }

// found is what a page was read as.
type found struct {
	bytes []byte
	err   api.Errno
}

// blockOf is the number of the block in which the page q stands, counted through all rounds.
func blockOf(q int64) int64 {
	return q / api.PagesPerBlock
}

// place is where the page q stands.
func (g ring) place(q int64) place {
	return place{block: int(blockOf(q) % int64(g.region.Blocks)), page: int(q % api.PagesPerBlock)}
}

// pages goes through all pages of the region, block by block.
func (g ring) pages() iter.Seq2[place, found] {
	return func(yield func(place, found) bool) {
		for block := range g.region.Blocks {
			for page := range api.PagesPerBlock {
				b, e := g.flash.Read(g.region.From+block, page)
				if !yield(place{block, page}, found{b, e}) {
					return
				}
			}
		}
	}
}

// put programs a page; who is the first one of its block finds there what an earlier round left.
func (g ring) put(x api.Leaf) api.Errno {
	at := g.place(x.Page)
	block := g.region.From + at.block
	if at.page == 0 {
		if e := g.flash.Erase(block); e != api.OK {
			return e
		}
	}
	b, e := Page(x)
	if e != api.OK {
		return e
	}
	return g.flash.Program(block, at.page, b)
}
