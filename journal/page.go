package journal

import (
	"bytes"
	"iter"

	"trivet/api"
	"trivet/shape"
)

const checkBytes = 8

// Page is a leaf as the bytes of a page.
func Page(x api.Leaf) ([]byte, api.Errno) {
	if !right(x) {
		return nil, api.ErrArg
	}
	b := make([]byte, api.PageBytes)
	copy(b[checkBytes:], shape.Blob(shape.Num(nil, x.Page, x.Record, x.Part, x.Many), x.Data))
	sum := shape.Check(b[checkBytes:])
	for i := range checkBytes {
		b[i] = byte(sum >> (8 * i))
	}
	return b, api.OK
}

// ParsePage is the leaf of which Page writes just these bytes, and whether there is one.
func ParsePage(b []byte) (api.Leaf, bool) {
	if len(b) != api.PageBytes {
		return api.Leaf{}, false
	}
	l, rest, e := shape.Nums(b[checkBytes:], 4)
	if e != api.OK {
		return api.Leaf{}, false
	}
	d, _, e := shape.TakeBlob(rest)
	if e != api.OK {
		return api.Leaf{}, false
	}
	x := api.Leaf{Page: l[0], Record: l[1], Part: l[2], Many: l[3], Data: d}
	if p, e := Page(x); e != api.OK || !bytes.Equal(p, b) { // which holds the check and the noughts against what they should be
		return api.Leaf{}, false
	}
	return x, true
}

// right tells whether a leaf may be.
func right(x api.Leaf) bool {
	return isNumber(x.Page) && isNumber(x.Record) && x.Part >= 0 && x.Part < x.Many && x.Many <= api.MaxJournal && len(x.Data) <= api.JournalChunk
}

// isNumber tells whether n may be a record's or a page's number.
func isNumber(n int64) bool {
	return n >= 0 && n <= api.MaxTime
}

// many is how many pages a record of so many bytes has.
func many(size int) int {
	return max(1, (size+api.JournalChunk-1)/api.JournalChunk)
}

// leaves are the pages of the record n, from the page q on.
func leaves(q, n int64, b []byte) iter.Seq[api.Leaf] {
	return func(yield func(api.Leaf) bool) {
		pages := int64(many(len(b)))
		for part := range pages {
			size := min(len(b), api.JournalChunk)
			if !yield(api.Leaf{Page: q + part, Record: n, Part: part, Many: pages, Data: b[:size]}) {
				return
			}
			b = b[size:]
		}
	}
}
