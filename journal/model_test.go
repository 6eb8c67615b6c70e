package journal_test

import (
	"bytes"
	"fmt"
	"math/rand"
	"slices"
	"testing"

	"trivet/api"
	"trivet/flash"
	"trivet/journal"
)

// model is the chapter's words once more, without regard to time: its own flash, the records with their first pages, the next page.
type model struct {
	f       *flash.Flash
	r       api.Region
	first   int64
	records [][]byte
	starts  []int64
	page    int64
	broken  bool
}

// reads is the leaf of a page: numbers are taken by hand, and all of it is held against the page of what was taken.
func reads(b []byte) (x api.Leaf, ok bool) {
	defer func() {
		if recover() != nil {
			x, ok = api.Leaf{}, false
		}
	}()
	at := 8
	take := func() (n int64) {
		k := int(b[at]) / 2
		for i := range k {
			n += int64(b[at+1+i]) << (8 * i)
		}
		at += 1 + k
		return n
	}
	x = api.Leaf{Page: take(), Record: take(), Part: take(), Many: take()}
	size := int(take())
	x.Data = slices.Clone(b[at : at+size])
	right := x.Page >= 0 && x.Page <= 1<<40 && x.Record >= 0 && x.Record <= 1<<40 && x.Part >= 0 && x.Part <= x.Many-1 && x.Many <= 65536 && size <= 200
	return x, right && bytes.Equal(b, sheet(x))
}

// open is P5.2.
func open(f *flash.Flash, r api.Region, first int64) *model {
	m := &model{f: f, r: r, first: first}
	counting := map[int64]api.Leaf{}
	greatest := int64(-1)
	for block := range r.Blocks {
		for page := range 16 {
			b, e := f.Read(r.From+block, page)
			if x, ok := reads(b); e == api.OK && ok && stands(r, x.Page) == [2]int{r.From + block, page} {
				counting[x.Page] = x
				greatest = max(greatest, x.Page)
			}
		}
	}
	for n := first; ; n++ {
		q, b := last(counting, n)
		if q < 0 || len(m.starts) > 0 && q <= m.starts[len(m.starts)-1] {
			break
		}
		m.starts, m.records = append(m.starts, q), append(m.records, b)
	}
	m.page = greatest + 1
	if greatest >= 0 {
		at := stands(r, greatest)
		for place := at[1] + 1; place < 16; place++ {
			if _, e := f.Read(at[0], place); e != api.ErrBlank {
				m.page = greatest/16*16 + int64(place) + 1
			}
		}
	}
	return m
}

// last is the greatest page at which the record n begins and is whole, and its bytes; -1, if there is none.
func last(counting map[int64]api.Leaf, n int64) (int64, []byte) {
	best, bytes := int64(-1), []byte(nil)
	for q, head := range counting {
		if head.Record != n || q <= best {
			continue
		}
		var b []byte
		whole := true
		for i := int64(0); i < head.Many && whole; i++ {
			x, ok := counting[q+i]
			whole = ok && x.Record == n && x.Many == head.Many && x.Part == i && (i == head.Many-1 || len(x.Data) == 200)
			b = append(b, x.Data...)
		}
		if whole {
			best, bytes = q, b
		}
	}
	return best, bytes
}

func (m *model) next() int64 { return m.first + int64(len(m.records)) }

// full tells whether so many pages from the next one on would be too many.
func (m *model) full(pages int) bool {
	if len(m.records) == 0 {
		return pages > (m.r.Blocks-1)*16
	}
	for q := m.page; q < m.page+int64(pages); q++ {
		if q/16 >= m.starts[0]/16+int64(m.r.Blocks) {
			return true
		}
	}
	return false
}

func (m *model) room() int {
	n := 0
	for !m.broken && !m.full(n+1) {
		n++
	}
	return n
}

// append is P5.3.
func (m *model) append(b []byte) (int64, api.Errno) {
	leaves := cut(m.page, m.next(), b)
	switch {
	case m.broken:
		return 0, api.ErrBroken
	case len(b) > 65536 || m.next() >= 1<<40:
		return 0, api.ErrLong
	case m.full(len(leaves)):
		return 0, api.ErrFull
	}
	for _, x := range leaves {
		at, e := stands(m.r, x.Page), api.OK
		if at[1] == 0 {
			e = m.f.Erase(at[0])
		}
		if e == api.OK {
			e = m.f.Program(at[0], at[1], sheet(x))
		}
		if e != api.OK {
			m.broken = true
			return 0, e
		}
	}
	m.records, m.starts, m.page = append(m.records, b), append(m.starts, m.page), m.page+int64(len(leaves))
	return m.next() - 1, api.OK
}

// trim is P5.4's.
func (m *model) trim(n int64) api.Errno {
	switch {
	case m.broken:
		return api.ErrBroken
	case n < m.first || n > m.next():
		return api.ErrArg
	}
	m.records, m.starts, m.first = m.records[n-m.first:], m.starts[n-m.first:], n
	return api.OK
}

// alike holds a log against its model.
func (m *model) alike(t *testing.T, f *flash.Flash, l *journal.Log) {
	t.Helper()
	if want := (view{m.first, m.next(), m.room(), len(m.records), m.broken}); look(l) != want {
		t.Fatal(look(l), "not", want)
	}
	holds(t, l, m.first, m.records...)
	if !flash.Same(f, m.f) {
		t.Fatal("the flashes are not the same")
	}
}

// stray is a leaf somewhere in the region, of a record near the log's, that fits to others more often than not.
func stray(draw *rand.Rand, m *model) api.Leaf {
	many := 1 + draw.Int63n(3)
	x := api.Leaf{Record: max(0, m.next()-3+draw.Int63n(6)), Part: draw.Int63n(many), Many: many}
	x.Page = max(0, m.page-40+draw.Int63n(60))
	if draw.Intn(20) == 0 {
		x.Page += draw.Int63n(1000)
	}
	x.Data = filled([]int{200, 200, 200, 199, 0, draw.Intn(200)}[draw.Intn(6)])
	return x
}

// scrawl lets somebody else do something to both flashes.
func scrawl(draw *rand.Rand, f *flash.Flash, m *model) {
	run := []api.Leaf{stray(draw, m)}
	if draw.Intn(2) == 0 { // a whole run, or one with a page from somewhere
		n := run[0].Record
		run = cut(run[0].Page, n, filled(draw.Intn(700)))
		if draw.Intn(3) == 0 {
			run[draw.Intn(len(run))] = stray(draw, m)
		}
	}
	for _, x := range run {
		at := stands(m.r, x.Page)
		if draw.Intn(30) == 0 {
			at[1] = draw.Intn(16)
		}
		page, bit := sheet(x), byte(1<<draw.Intn(8))
		what, where := draw.Intn(8), draw.Intn(256)
		for _, g := range []*flash.Flash{f, m.f} {
			switch what {
			case 0:
				g.Spoil(at[0], at[1], where, bit)
			case 1:
				g.SetFuse(1, 1)
				g.Program(at[0], at[1], page)
				g.Crash() // of a page that was not blank the fuse is still there
				g.Restart()
			default:
				g.Program(at[0], at[1], page)
			}
		}
	}
}

// step does a drawn thing to a log and to its model, and is what both have answered, and the log that there is then.
func step(t *testing.T, draw *rand.Rand, f *flash.Flash, l *journal.Log, m *model) (*journal.Log, *model, string, string) {
	switch draw.Intn(12) {
	case 0, 1:
		n := m.first - 1 + draw.Int63n(int64(len(m.records))+3)
		return l, m, fmt.Sprint("trim ", n, l.Trim(n)), fmt.Sprint("trim ", n, m.trim(n))
	case 2:
		count, keep := 1+draw.Intn(9), draw.Intn(3)
		return l, m, fmt.Sprint("fuse ", f.SetFuse(count, keep)), fmt.Sprint("fuse ", m.f.SetFuse(count, keep))
	case 3, 4:
		if draw.Intn(3) == 0 {
			scrawl(draw, f, m)
		}
		f.Restart()
		m.f.Restart()
		first := min(api.MaxTime, max(0, m.first-2+draw.Int63n(int64(len(m.records))+4)))
		return opened(t, f, m.r, first), open(m.f, m.r, first), "", ""
	default:
		sizes := []int{0, 1, 199, 200, 201, 400, 401, draw.Intn(500), draw.Intn(3000), draw.Intn(9000), 16 * 200, 65536, 65537}
		b := filled(sizes[draw.Intn(len(sizes))])
		n, e := l.Append(b...)
		k, d := m.append(b)
		return l, m, fmt.Sprint("append ", len(b), n, e), fmt.Sprint("append ", len(b), k, d)
	}
}

// P5.2 to P5.6, R6: drawn calls, with the power going, with spoilt pages, with pages that somebody else has programmed, held against the model.
func TestAgainstTheModel(t *testing.T) {
	seen := map[string]int{}
	for seed := range int64(250) {
		draw := rand.New(rand.NewSource(seed))
		r := api.Region{From: draw.Intn(3), Blocks: 2 + draw.Intn(4)}
		f := made(t, r.From+r.Blocks+draw.Intn(2))
		first := []int64{0, 0, 7, api.MaxTime - 20}[draw.Intn(4)]
		if draw.Intn(2) == 0 { // late rounds
			q := draw.Int63n(1 << 39)
			at := stands(r, q)
			same(t, f.Program(at[0], at[1], sheet(one(q, 1000000, ""))), api.OK)
		}
		m := open(f.Clone(), r, first)
		l := opened(t, f, r, first)
		for range 150 {
			var got, want string
			l, m, got, want = step(t, draw, f, l, m)
			if got != want {
				t.Fatal("seed", seed, got, "not", want)
			}
			m.alike(t, f, l)
			seen[fmt.Sprint(min(4, len(m.records)), m.broken, m.page > 48)]++
		}
	}
	for many := range 5 {
		for _, broken := range []bool{false, true} {
			if seen[fmt.Sprint(many, broken, true)] == 0 {
				t.Error("never", many, "records, broken being", broken)
			}
		}
	}
}

// P5.2, R6: pages put anywhere at random, opened from each first: the same as the model, each time.
func TestOpenAgainstTheModel(t *testing.T) {
	records := 0
	for seed := range int64(400) {
		draw := rand.New(rand.NewSource(seed))
		r := api.Region{From: draw.Intn(2), Blocks: 2 + draw.Intn(3)}
		f := made(t, r.From+r.Blocks)
		m := open(f.Clone(), r, 0)
		for range 5 + draw.Intn(30) {
			m.first, m.page = draw.Int63n(4), 40+draw.Int63n(10)
			scrawl(draw, f, m)
		}
		for first := range int64(7) {
			want := open(f.Clone(), r, first)
			for range 3 {
				want.alike(t, f, opened(t, f, r, first))
			}
			records = max(records, len(want.records))
		}
	}
	if records < 4 {
		t.Error("never more records than", records)
	}
}
