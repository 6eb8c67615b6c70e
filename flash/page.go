package flash

import (
	"iter"
	"strings"

	"trivet/api"
)

// The states of a page.
const (
	blank = iota
	torn
	full
)

// erased is what a byte has that was not programmed.
const erased = "\xff"

// content is what a page has. The bytes are a string, so that clones may share them: none can change another one's.
type content struct {
	state int
	bytes string
}

type block struct {
	pages [api.PagesPerBlock]content
	wear  int64
}

type place struct{ block, page int }

// filled is a page with these bytes at its beginning.
func filled(b []byte) content {
	return content{full, string(b) + strings.Repeat(erased, api.PageBytes-len(b))}
}

// missing is the error of a page that has no bytes to be read.
func (c *content) missing() api.Errno {
	if c.state == torn {
		return api.ErrTorn
	}
	return api.ErrBlank
}

// used goes through the pages of blocks that are not blank.
func used(l ...block) iter.Seq[place] {
	return func(yield func(place) bool) {
		for b := range l {
			for p := range l[b].pages {
				if l[b].pages[p].state != blank && !yield(place{b, p}) {
					return
				}
			}
		}
	}
}

// made tells whether New or Clone made it.
func (f *Flash) made() bool {
	return f != nil && len(f.blocks) > 0
}

// has tells whether there is such a block.
func (f *Flash) has(block int) bool {
	return f.made() && block >= 0 && block < len(f.blocks)
}

// ready is the error of a flash that cannot be asked for anything.
func (f *Flash) ready() api.Errno {
	switch {
	case !f.made():
		return api.ErrMade
	case f.down:
		return api.ErrDown
	}
	return api.OK
}

// find is a page of a flash that has the power.
func (f *Flash) find(block, page int) (*content, api.Errno) {
	if e := f.ready(); e != api.OK {
		return nil, e
	}
	if !f.has(block) || page < 0 || page >= api.PagesPerBlock {
		return nil, api.ErrArg
	}
	return &f.blocks[block].pages[page], api.OK
}
