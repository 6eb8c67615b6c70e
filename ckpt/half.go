package ckpt

import (
	"iter"
	"slices"

	"trivet/api"
	"trivet/flash"
)

// half is one of the two halves of a region: so many blocks of a flash from its first one on.
type half struct {
	flash  *flash.Flash
	from   int
	blocks int
}

// found is a checkpoint, its number, and the half that it is in.
type found struct {
	half   int
	number int64
	saved  api.Saved
}

// halves are the two of a region that may be.
func halves(f *flash.Flash, r api.Region) [2]half {
	n := r.Blocks / 2
	return [2]half{{flash: f, from: r.From, blocks: n}, {flash: f, from: r.From + n, blocks: n}}
}

// newest is the checkpoint of the greater number of a region's two, and whether there is one. Without one its number is 0, which is below all others.
func newest(f *flash.Flash, r api.Region) (found, bool) {
	var best found
	for i, h := range halves(f, r) {
		n, s, e := Decode(h.read())
		if e == api.OK && n > best.number { // of the same numbers the first one stays
			best = found{half: i, number: n, saved: s}
		}
	}
	return best, best.number > 0
}

// size is how many bytes the half's pages have together.
func (h half) size() int {
	return h.blocks * api.PagesPerBlock * api.PageBytes
}

// page is the block and the page of it that the half's page i is.
func (h half) page(i int) (int, int) {
	return h.from + i/api.PagesPerBlock, i % api.PagesPerBlock
}

// pages tells the bytes of the half's pages, in order, up to the first that cannot be read.
func (h half) pages() iter.Seq[[]byte] {
	return func(yield func([]byte) bool) {
		for i := range h.blocks * api.PagesPerBlock {
			b, e := h.flash.Read(h.page(i))
			if e != api.OK || !yield(b) {
				return
			}
		}
	}
}

// read is the bytes of the pages that can be read, one behind the other.
func (h half) read() []byte {
	var all []byte
	for b := range h.pages() {
		all = append(all, b...)
	}
	return all
}

// write puts bytes that are not longer than the half to its first pages, all others being blank then.
func (h half) write(b []byte) api.Errno {
	if e := h.clear(); e != api.OK {
		return e
	}
	i := 0
	for part := range slices.Chunk(b, api.PageBytes) {
		block, page := h.page(i)
		if e := h.flash.Program(block, page, part); e != api.OK {
			return e
		}
		i++
	}
	return api.OK
}

// clear makes all of the half's pages blank. A block whose pages are blank is spared the wear.
func (h half) clear() api.Errno {
	for block := h.from; block < h.from+h.blocks; block++ {
		if h.flash.Used(block) == 0 {
			continue
		}
		if e := h.flash.Erase(block); e != api.OK {
			return e
		}
	}
	return api.OK
}
