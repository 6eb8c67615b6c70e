package journal_test

import (
	"math"
	"slices"
	"testing"

	"trivet/api"
	"trivet/flash"
	"trivet/journal"
)

var three = api.Region{From: 1, Blocks: 3} // of a flash of five blocks

// drawn is a flash of five blocks whose region three has the leaves, each where its number says.
func drawn(t *testing.T, leaves ...api.Leaf) *flash.Flash {
	t.Helper()
	f := made(t, 5)
	program(t, f, leaves...)
	return f
}

func program(t *testing.T, f *flash.Flash, leaves ...api.Leaf) {
	t.Helper()
	for _, x := range leaves {
		at := stands(three, x.Page)
		same(t, f.Program(at[0], at[1], sheet(x)), api.OK)
	}
}

// tear lets the power go within the programming of a page of the region three.
func tear(t *testing.T, f *flash.Flash, block, page int) {
	t.Helper()
	same(t, f.SetFuse(1, 1), api.OK)
	same(t, f.Program(three.From+block, page, nil), api.ErrDown)
	same(t, f.Restart(), api.OK)
}

// one is a record of one page.
func one(q, n int64, text string) api.Leaf {
	return api.Leaf{Page: q, Record: n, Many: 1, Data: []byte(text)}
}

// part is a page of a record of several ones, with as many bytes as it may have.
func part(q, n, i, many int64) api.Leaf {
	return api.Leaf{Page: q, Record: n, Part: i, Many: many, Data: filled(200)}
}

// begins is the page at which the next record goes, by what an Append does to a clone.
func begins(t *testing.T, f *flash.Flash) int64 {
	t.Helper()
	const n = api.MaxTime - 1
	c := f.Clone()
	l := opened(t, c, three, n)
	if _, e := l.Append('x'); e != api.OK || l.First() != n {
		t.Fatal(l.First(), e)
	}
	for block := range three.Blocks {
		for page := range api.PagesPerBlock {
			b, _ := c.Read(three.From+block, page)
			x, ok := journal.ParsePage(b)
			if ok && x.Record == n {
				if stands(three, x.Page) != [2]int{three.From + block, page} {
					t.Error("the page", x.Page, "stands in block", block, "at", page)
				}
				return x.Page
			}
		}
	}
	t.Fatal("nothing was programmed")
	return 0
}

// P5.2, R2: errors in their order, each with no log and nothing changed.
func TestOpenErrors(t *testing.T) {
	f, down := made(t, 5), made(t, 5)
	same(t, down.Crash(), api.OK)
	good := api.Region{From: 1, Blocks: 3}
	cases := []struct {
		name  string
		f     *flash.Flash
		r     api.Region
		first int64
		want  api.Errno
	}{
		{"nil and all else wrong", nil, api.Region{From: -1}, -1, api.ErrMade},
		{"zero and all else wrong", &flash.Flash{}, api.Region{From: -1}, -1, api.ErrMade},
		{"nil", nil, good, 0, api.ErrMade},
		{"zero", &flash.Flash{}, good, 0, api.ErrMade},
		{"no blocks of nil", nil, api.Region{}, 0, api.ErrMade},
		{"From -1", f, api.Region{From: -1, Blocks: 3}, 0, api.ErrJournal},
		{"From least", f, api.Region{From: math.MinInt, Blocks: 3}, 0, api.ErrJournal},
		{"From least with all blocks", f, api.Region{From: math.MinInt, Blocks: math.MaxInt}, 0, api.ErrJournal},
		{"no blocks", f, api.Region{}, 0, api.ErrJournal},
		{"one block", f, api.Region{Blocks: 1}, 0, api.ErrJournal},
		{"blocks below 0", f, api.Region{From: 1, Blocks: -3}, 0, api.ErrJournal},
		{"least blocks", f, api.Region{From: 1, Blocks: math.MinInt}, 0, api.ErrJournal},
		{"one block more", f, api.Region{Blocks: 6}, 0, api.ErrJournal},
		{"one block further", f, api.Region{From: 3, Blocks: 3}, 0, api.ErrJournal},
		{"From behind the last block", f, api.Region{From: 5, Blocks: 2}, 0, api.ErrJournal},
		{"the sum wraps round", f, api.Region{From: math.MaxInt, Blocks: math.MaxInt}, 0, api.ErrJournal},
		{"the sum wraps round to 0", f, api.Region{From: math.MaxInt, Blocks: 2}, 0, api.ErrJournal},
		{"all blocks but two", f, api.Region{From: 2, Blocks: math.MaxInt}, 0, api.ErrJournal},
		{"a region and a first that are none", f, api.Region{Blocks: 1}, -1, api.ErrJournal},
		{"a region that is none, down", down, api.Region{Blocks: 1}, 0, api.ErrJournal},
		{"first -1", f, good, -1, api.ErrArg},
		{"first least", f, good, math.MinInt64, api.ErrArg},
		{"first one more", f, good, api.MaxTime + 1, api.ErrArg},
		{"first greatest", f, good, math.MaxInt64, api.ErrArg},
		{"first -1, down", down, good, -1, api.ErrArg},
		{"first one more, down", down, good, api.MaxTime + 1, api.ErrArg},
		{"down", down, good, 0, api.ErrDown},
	}
	for _, c := range cases {
		was := c.f.Clone()
		if l, e := journal.Open(c.f, c.r, c.first); l != nil || e != c.want {
			t.Error(c.name, l, e)
		}
		if was != nil && !flash.Same(was, c.f) {
			t.Error(c.name, "has written")
		}
	}
	for _, r := range []api.Region{{Blocks: 2}, {Blocks: 5}, {From: 3, Blocks: 2}, {From: 1, Blocks: 4}, good} {
		for _, first := range []int64{0, 1, api.MaxTime} {
			l := opened(t, f, r, first)
			if want := (view{first, first, (r.Blocks - 1) * 16, 0, false}); look(l) != want {
				t.Error(r, first, look(l))
			}
		}
	}
}

// P5.2: Open of a down flash whose pages are all blank or torn is ErrDown, too, and that of one with the power is not.
func TestOpenReadsPast(t *testing.T) {
	f := made(t, 5)
	for page := range api.PagesPerBlock {
		tear(t, f, 0, page)
	}
	holds(t, opened(t, f, three, 0), 0)
	same(t, f.Crash(), api.OK)
	if l, e := journal.Open(f, three, 0); l != nil || e != api.ErrDown {
		t.Error(l, e)
	}
}

// P5.2: nothing is written, whatever stands there.
func TestOpenWritesNothing(t *testing.T) {
	f := drawn(t, one(14, 0, "a"), one(16, 1, "b"), part(20, 3, 0, 2))
	tear(t, f, 1, 7)
	same(t, f.Program(three.From+2, 3, []byte("noise")), api.OK)
	same(t, f.SetFuse(1, 1), api.OK)
	was := f.Clone()
	for first := range int64(5) {
		opened(t, f, three, first)
	}
	if !flash.Same(was, f) {
		t.Error("Open has written")
	}
}

// P5.2: a record counts with its pages one behind the other; of a log the records from first on, as long as they count, each one behind the one ahead of it.
func TestWhatIsThere(t *testing.T) {
	full, two := string(filled(200)), string(filled(200))+string(filled(200))
	short := api.Leaf{Page: 1, Record: 0, Part: 1, Many: 3, Data: filled(199)}
	cases := []struct {
		name   string
		leaves []api.Leaf
		first  int64
		want   []string
	}{
		{"nothing", nil, 0, nil},
		{"one record", []api.Leaf{one(0, 0, "a")}, 0, []string{"a"}},
		{"an empty one", []api.Leaf{one(0, 0, "")}, 0, []string{""}},
		{"not from page 0 on", []api.Leaf{one(5, 0, "a"), one(9, 1, "b")}, 0, []string{"a", "b"}},
		{"from another first on", []api.Leaf{one(0, 0, "a"), one(1, 1, "b"), one(2, 2, "c")}, 1, []string{"b", "c"}},
		{"first is behind", []api.Leaf{one(0, 0, "a"), one(1, 1, "b")}, 2, nil},
		{"first is far behind", []api.Leaf{one(0, 0, "a"), one(1, 1, "b")}, 1000, nil},
		{"first is ahead", []api.Leaf{one(0, 5, "a")}, 4, nil},
		{"a gap", []api.Leaf{one(0, 0, "a"), one(1, 2, "c")}, 0, []string{"a"}},
		{"numbers that fall", []api.Leaf{one(1, 0, "a"), one(0, 1, "b")}, 0, []string{"a"}},
		{"numbers that fall, from the second on", []api.Leaf{one(1, 0, "a"), one(0, 1, "b")}, 1, []string{"b"}},
		{"numbers that fall later", []api.Leaf{one(3, 0, "a"), one(4, 1, "b"), one(2, 2, "c"), one(9, 3, "d")}, 0, []string{"a", "b"}},
		{"the greatest of several", []api.Leaf{one(0, 0, "a"), one(1, 0, "b"), one(2, 0, "c")}, 0, []string{"c"}},
		{"the greatest of several, ahead of it another one", []api.Leaf{one(0, 0, "a"), one(1, 1, "b"), one(2, 0, "c")}, 0, []string{"c"}},
		{"the greatest of several stands behind the one ahead", []api.Leaf{one(0, 1, "old"), one(1, 0, "a"), one(2, 1, "new")}, 0, []string{"a", "new"}},
		{"the greatest of several that is whole", []api.Leaf{one(0, 0, "a"), part(1, 0, 0, 2)}, 0, []string{"a"}},
		{"two runs of two pages", []api.Leaf{part(0, 0, 0, 2), part(1, 0, 1, 2), part(2, 0, 0, 2), {Page: 3, Record: 0, Part: 1, Many: 2, Data: []byte("new")}}, 0, []string{full + "new"}},
		{"a run that ended early, then a whole one", []api.Leaf{part(0, 0, 0, 3), part(1, 0, 1, 3), part(2, 0, 0, 2), part(3, 0, 1, 2)}, 0, []string{two}},
		{"a run of which the end is another one's", []api.Leaf{part(0, 0, 0, 3), part(1, 0, 0, 3), part(2, 0, 1, 3)}, 0, nil},
		{"the first page is not there", []api.Leaf{part(1, 0, 1, 2)}, 0, nil},
		{"the last page is not there", []api.Leaf{part(0, 0, 0, 2)}, 0, nil},
		{"one between is not there", []api.Leaf{part(0, 0, 0, 3), part(2, 0, 2, 3)}, 0, nil},
		{"a page between them", []api.Leaf{part(0, 0, 0, 2), part(2, 0, 1, 2)}, 0, nil},
		{"parts turned", []api.Leaf{part(0, 0, 1, 2), part(1, 0, 0, 2)}, 0, nil},
		{"a part twice", []api.Leaf{part(0, 0, 0, 2), part(1, 0, 0, 2)}, 0, nil},
		{"a part left out", []api.Leaf{part(0, 0, 0, 3), part(1, 0, 2, 3), part(2, 0, 2, 3)}, 0, nil},
		{"another record's part", []api.Leaf{part(0, 0, 0, 2), part(1, 1, 1, 2)}, 0, nil},
		{"another Many", []api.Leaf{part(0, 0, 0, 2), part(1, 0, 1, 3)}, 0, nil},
		{"a smaller Many", []api.Leaf{part(0, 0, 0, 3), part(1, 0, 1, 2)}, 0, nil},
		{"a part between that is short", []api.Leaf{part(0, 0, 0, 3), short, part(2, 0, 2, 3)}, 0, nil},
		{"the first part is short", []api.Leaf{{Page: 0, Many: 2, Data: filled(199)}, part(1, 0, 1, 2)}, 0, nil},
		{"the last part is full", []api.Leaf{part(0, 0, 0, 2), part(1, 0, 1, 2)}, 0, []string{two}},
		{"the last part is empty", []api.Leaf{part(0, 0, 0, 2), {Page: 1, Part: 1, Many: 2}}, 0, []string{full}},
		{"over a block's end", []api.Leaf{part(15, 0, 0, 2), part(16, 0, 1, 2)}, 0, []string{two}},
		{"over the ring's end", []api.Leaf{part(47, 0, 0, 2), part(48, 0, 1, 2)}, 0, []string{two}},
		{"over a ring's end in a late round", []api.Leaf{part(48e9+47, 0, 0, 2), part(48e9+48, 0, 1, 2)}, 0, []string{two}},
		{"beside each other in the ring, but not by their numbers", []api.Leaf{part(47, 0, 0, 2), part(96, 0, 1, 2)}, 0, nil},
		{"rounds that are not one behind the other", []api.Leaf{one(48*7, 0, "a"), one(1, 1, "b"), one(48*8+2, 1, "c")}, 0, []string{"a", "c"}},
		{"the last page of all", []api.Leaf{one(api.MaxTime, 0, "a")}, 0, []string{"a"}},
	}
	for _, c := range cases {
		f := drawn(t, c.leaves...)
		l := opened(t, f, three, c.first)
		var want [][]byte
		for _, s := range c.want {
			want = append(want, []byte(s))
		}
		t.Run(c.name, func(t *testing.T) { holds(t, l, c.first, want...) })
	}
}

// P5.2: pages that ParsePage takes, but that stand elsewhere than their number says, do not count; nor do those that are spoilt, torn, or outside of the region.
func TestPagesThatDoNotCount(t *testing.T) {
	place := func(block, page int, x api.Leaf) *flash.Flash {
		f := drawn(t, one(0, 0, "a"))
		same(t, f.Program(block, page, sheet(x)), api.OK)
		return f
	}
	for name, f := range map[string]*flash.Flash{
		"another place":                 place(1, 2, one(1, 1, "b")),
		"another block":                 place(2, 1, one(1, 1, "b")),
		"ahead of the region":           place(0, 1, one(1, 1, "b")),
		"behind the region":             place(4, 0, one(48, 1, "b")),
		"by the flash's own first":      place(2, 0, one(32, 1, "b")),
		"by another round's block":      place(1, 1, one(48+17, 1, "b")),
		"by the number of all pages":    place(3, 15, one(48, 1, "b")),
		"a leaf that is none, in place": place(1, 1, api.Leaf{Page: 1, Record: 1, Many: 0}),
	} {
		l := opened(t, f, three, 0)
		if got := told(l); len(got) != 1 || l.Next() != 1 {
			t.Error(name, got)
		}
	}
	f := place(1, 1, one(48+1, 1, "b")) // a later round's, in its place
	holds(t, opened(t, f, three, 0), 0, []byte("a"), []byte("b"))
	same(t, f.Spoil(1, 1, 100, 1), api.OK)
	holds(t, opened(t, f, three, 0), 0, []byte("a"))
	for page := range 3 {
		f = drawn(t, part(0, 0, 0, 3), part(1, 0, 1, 3), part(2, 0, 2, 3), one(3, 1, "b"))
		if l := opened(t, f, three, 0); l.Next() != 2 {
			t.Fatal(l.Next())
		}
		same(t, f.Spoil(1, page, 255, 128), api.OK)
		holds(t, opened(t, f, three, 0), 0)
		holds(t, opened(t, f, three, 1), 1, []byte("b"))
	}
}

// P5.2: the next page is behind the greatest one that counts, and behind all that is not blank in its block.
func TestNextPage(t *testing.T) {
	type spot struct{ block, page int }
	cases := []struct {
		name   string
		leaves []api.Leaf
		torn   []spot
		noise  []spot
		want   int64
	}{
		{"nothing", nil, nil, nil, 0},
		{"nothing that counts", nil, []spot{{0, 0}, {1, 3}}, []spot{{0, 5}, {2, 15}}, 0},
		{"one", []api.Leaf{one(0, 0, "")}, nil, nil, 1},
		{"not the first place", []api.Leaf{one(5, 0, "")}, nil, nil, 6},
		{"a page of no record", []api.Leaf{part(5, 7, 3, 9)}, nil, nil, 6},
		{"the greatest one", []api.Leaf{one(2, 0, ""), one(20, 1, ""), one(7, 2, "")}, nil, nil, 21},
		{"the greatest of all rounds", []api.Leaf{one(480+2, 0, ""), one(20, 1, "")}, nil, nil, 483},
		{"a block's end", []api.Leaf{one(15, 0, "")}, nil, nil, 16},
		{"the ring's end", []api.Leaf{one(47, 0, "")}, nil, nil, 48},
		{"torn behind it", []api.Leaf{one(3, 0, "")}, []spot{{0, 4}}, nil, 5},
		{"torn behind it, with a gap", []api.Leaf{one(3, 0, "")}, []spot{{0, 9}}, nil, 10},
		{"several torn behind it", []api.Leaf{one(3, 0, "")}, []spot{{0, 4}, {0, 9}, {0, 6}}, nil, 10},
		{"torn ahead of it", []api.Leaf{one(3, 0, "")}, []spot{{0, 1}}, nil, 4},
		{"torn at a block's last place", []api.Leaf{one(3, 0, "")}, []spot{{0, 15}}, nil, 16},
		{"torn at the ring's last place", []api.Leaf{one(46, 0, "")}, []spot{{2, 15}}, nil, 48},
		{"torn in the next block", []api.Leaf{one(3, 0, "")}, []spot{{1, 0}, {1, 8}}, nil, 4},
		{"torn in the next block, behind a block's end", []api.Leaf{one(15, 0, "")}, []spot{{1, 0}}, nil, 16},
		{"torn in the first block, behind the ring's end", []api.Leaf{one(47, 0, "")}, []spot{{0, 0}}, nil, 48},
		{"noise behind it", []api.Leaf{one(3, 0, "")}, nil, []spot{{0, 5}}, 6},
		{"noise, then torn", []api.Leaf{one(3, 0, "")}, []spot{{0, 7}}, []spot{{0, 5}}, 8},
		{"torn, then noise", []api.Leaf{one(3, 0, "")}, []spot{{0, 5}}, []spot{{0, 7}}, 8},
		{"noise in another block", []api.Leaf{one(3, 0, "")}, nil, []spot{{1, 5}, {2, 15}}, 4},
		{"by its own round", []api.Leaf{one(48*5+19, 0, "")}, []spot{{1, 6}}, nil, 48*5 + 23},
		{"at the last place, by its own round", []api.Leaf{one(48*5+19, 0, "")}, []spot{{1, 15}}, nil, 48*5 + 32},
		{"behind it one of an earlier round", []api.Leaf{one(48*5+19, 0, ""), one(48*4+25, 0, "")}, nil, nil, 48*5 + 26},
		{"behind it one of an earlier round, at the last place", []api.Leaf{one(48*5+19, 0, ""), one(31, 0, "")}, nil, nil, 48*5 + 32},
		{"in the last block, behind it one of an earlier round", []api.Leaf{one(48*5+47-3, 0, ""), one(47, 0, "")}, nil, nil, 48 * 6},
	}
	for _, c := range cases {
		f := drawn(t, c.leaves...)
		for _, x := range c.torn {
			tear(t, f, x.block, x.page)
		}
		for _, x := range c.noise {
			same(t, f.Program(three.From+x.block, x.page, []byte("noise")), api.OK)
		}
		if got := begins(t, f); got != c.want {
			t.Error(c.name, "goes on at", got, "not", c.want)
		}
	}
}

// P5.2: pages that count, but not in place, or that are whole in another place, are no reason to begin elsewhere, but in the block of the greatest one they are not blank.
func TestNextPageBehindStrayPages(t *testing.T) {
	f := drawn(t, one(3, 0, "a"))
	same(t, f.Program(2, 0, sheet(one(5000, 1, "b"))), api.OK)
	if got := begins(t, f); got != 4 {
		t.Error(got)
	}
	same(t, f.Program(1, 9, sheet(one(5000, 1, "b"))), api.OK)
	if got := begins(t, f); got != 10 {
		t.Error(got)
	}
}

// P5.3, P5.4: where pages of no record stand rounds ahead, there is no room behind the records; when these are trimmed there is.
func TestRoomBelowNothing(t *testing.T) {
	f := drawn(t, one(3, 0, "a"), part(48*9+20, 8, 0, 2))
	l := opened(t, f, three, 0)
	holds(t, l, 0, []byte("a"))
	if l.Room() != 0 {
		t.Error(l.Room())
	}
	refuses(t, f, l, api.ErrFull)
	same(t, l.Trim(1), api.OK)
	if l.Room() != 32 {
		t.Error(l.Room())
	}
	puts(t, l, []byte("b"))
	x := stands(three, 48*9+21)
	if b, e := f.Read(x[0], x[1]); e != api.OK || !slices.Equal(b, sheet(one(48*9+21, 1, "b"))) {
		t.Error(b, e)
	}
	if l.Room() != 16*(27+1+3)-(48*9+22) {
		t.Error(l.Room())
	}
}

// P5.3: a page's number is at most MaxTime: a record that would go on above it has pages that Page does not write, whose error breaks the log.
func TestLastPages(t *testing.T) {
	f := drawn(t, one(api.MaxTime-1, 5, "a"))
	l := opened(t, f, three, 5)
	holds(t, l, 5, []byte("a"))
	puts(t, l, []byte("b")) // the page MaxTime
	holds(t, opened(t, f, three, 5), 5, []byte("a"), []byte("b"))
	if n, e := l.Append('c'); n != 0 || e != api.ErrArg || !l.Broken() {
		t.Error(n, e, l.Broken())
	}
	holds(t, l, 5, []byte("a"), []byte("b"))
	l = opened(t, f, three, 5)
	if n, e := l.Append('c'); n != 0 || e != api.ErrArg || !l.Broken() {
		t.Error(n, e, l.Broken())
	}
	f = drawn(t, one(api.MaxTime-1, 5, "a"))
	l = opened(t, f, three, 5)
	if n, e := l.Append(filled(201)...); n != 0 || e != api.ErrArg || !l.Broken() {
		t.Error(n, e, l.Broken())
	}
	holds(t, opened(t, f, three, 5), 5, []byte("a"))
}

// P5.2, P5.3: a record of the number MaxTime counts where it stands; behind it none is appended.
func TestLastRecord(t *testing.T) {
	f := drawn(t, one(0, api.MaxTime, "a"))
	l := opened(t, f, three, api.MaxTime)
	holds(t, l, api.MaxTime, []byte("a"))
	refuses(t, f, l, api.ErrLong)
	same(t, l.Trim(api.MaxTime+1), api.OK)
	refuses(t, f, l, api.ErrLong)
}
