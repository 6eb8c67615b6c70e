package journal

import "trivet/api"

// survey is what was found in a region: the pages that count, by their numbers; the greatest one of these; and of each block the last place that is not blank.
type survey struct {
	leaves map[int64]api.Leaf
	top    int64
	last   []int
}

// survey reads all pages of the region.
func (g ring) survey() (*survey, api.Errno) {
	s := &survey{leaves: map[int64]api.Leaf{}, last: make([]int, g.region.Blocks)}
	for at, was := range g.pages() {
		switch was.err {
		case api.ErrBlank:
			continue
		case api.OK, api.ErrTorn:
			s.last[at.block] = at.page
		default:
			return nil, was.err
		}
		x, ok := ParsePage(was.bytes) // of a torn page there are none
		if ok && g.place(x.Page) == at {
			s.leaves[x.Page] = x
			s.top = max(s.top, x.Page)
		}
	}
	return s, api.OK
}

// next is the page at which the next record is to begin: behind all that was tried to be programmed in the block of the greatest page.
func (s *survey) next() int64 {
	if len(s.leaves) == 0 {
		return 0
	}
	block := blockOf(s.top)
	return block*api.PagesPerBlock + int64(s.last[block%int64(len(s.last))]) + 1
}

// records are those from first on, as long as each one is whole and stands behind the one ahead of it.
func (s *survey) records(first int64) []held {
	starts := s.starts()
	var l []held
	for {
		q, ok := starts[first+int64(len(l))]
		if !ok || len(l) > 0 && q <= l[len(l)-1].page {
			return l
		}
		l = append(l, held{page: q, bytes: s.text(q)})
	}
}

// starts has, by the numbers of the records that are whole somewhere, the greatest page at which each one begins.
func (s *survey) starts() map[int64]int64 {
	m := map[int64]int64{}
	for q, x := range s.leaves {
		if s.whole(q) {
			m[x.Record] = max(m[x.Record], q)
		}
	}
	return m
}

// whole tells whether all pages of a record stand from the page q on.
func (s *survey) whole(q int64) bool {
	head := s.leaves[q]
	for i := range head.Many {
		x, ok := s.leaves[q+i]
		if !ok || x.Record != head.Record || x.Many != head.Many || x.Part != i {
			return false
		}
		if i < head.Many-1 && len(x.Data) != api.JournalChunk {
			return false
		}
	}
	return true
}

// text is the bytes of the record that begins at the page q.
func (s *survey) text(q int64) string {
	var b []byte
	for i := range s.leaves[q].Many {
		b = append(b, s.leaves[q+i].Data...)
	}
	return string(b)
}
