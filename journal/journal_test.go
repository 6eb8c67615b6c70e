package journal_test

import (
	"bytes"
	"math"
	"slices"
	"testing"

	"trivet/api"
	"trivet/flash"
	"trivet/journal"
)

// pair is a record with its number.
type pair struct {
	n int64
	b string
}

func made(t *testing.T, blocks int) *flash.Flash {
	t.Helper()
	f, e := flash.New(blocks)
	if e != api.OK {
		t.Fatal(blocks, e)
	}
	return f
}

func opened(t *testing.T, f *flash.Flash, r api.Region, first int64) *journal.Log {
	t.Helper()
	l, e := journal.Open(f, r, first)
	if e != api.OK || l == nil {
		t.Fatal(r, first, l, e)
	}
	return l
}

// fresh is an empty log on a flash of so many blocks, all of which are its.
func fresh(t *testing.T, blocks int) (*flash.Flash, *journal.Log) {
	t.Helper()
	f := made(t, blocks)
	return f, opened(t, f, api.Region{Blocks: blocks}, 0)
}

// puts appends records, each of which must be answered with the number that is next.
func puts(t *testing.T, l *journal.Log, records ...[]byte) {
	t.Helper()
	for i, b := range records {
		want := l.Next()
		if n, e := l.Append(b...); n != want || e != api.OK || l.Next() != want+1 {
			t.Fatal("record", i, "of", len(b), "bytes:", n, e, "and next is", l.Next())
		}
	}
}

// pages appends a record of just so many pages.
func pages(t *testing.T, l *journal.Log, n int) {
	t.Helper()
	puts(t, l, filled(n*api.JournalChunk))
}

// refuses appends a record that must be answered with an error, which is to leave all as it is.
func refuses(t *testing.T, f *flash.Flash, l *journal.Log, want api.Errno, b ...byte) {
	t.Helper()
	was, before := f.Clone(), look(l)
	if n, e := l.Append(b...); n != 0 || e != want {
		t.Error(len(b), "bytes:", n, e, "not", want)
	}
	if before != look(l) || !flash.Same(was, f) {
		t.Error(len(b), "bytes were refused, but", before, "is now", look(l))
	}
}

func same(t *testing.T, got, want api.Errno) {
	t.Helper()
	if got != want {
		t.Error("answers", got, "not", want)
	}
}

func told(l *journal.Log) (all []pair) {
	for n, b := range l.Records() {
		all = append(all, pair{n, string(b)})
	}
	return all
}

// view is all that a log answers, but its records' bytes.
type view struct {
	first, next int64
	room, many  int
	broken      bool
}

func look(l *journal.Log) view {
	return view{l.First(), l.Next(), l.Room(), len(told(l)), l.Broken()}
}

// holds fails the test, unless the log has these records, from first on.
func holds(t *testing.T, l *journal.Log, first int64, want ...[]byte) {
	t.Helper()
	got := told(l)
	if l.First() != first || l.Next() != first+int64(len(want)) || len(got) != len(want) {
		t.Fatal("from", l.First(), "to", l.Next(), "with", len(got), "records, not from", first, "with", len(want))
	}
	for i, b := range want {
		if got[i].n != first+int64(i) || got[i].b != string(b) {
			t.Fatal("record", got[i].n, "of", len(got[i].b), "bytes, not", first+int64(i), "of", len(b))
		}
	}
}

// written fails the test, unless the pages of the flash that are not blank are those of the leaves, standing as their numbers say.
func written(t *testing.T, f *flash.Flash, r api.Region, leaves ...api.Leaf) {
	t.Helper()
	want := map[[2]int][]byte{}
	for _, x := range leaves {
		want[stands(r, x.Page)] = sheet(x)
	}
	n := 0
	for block, page := range f.All() {
		n++
		b, e := f.Read(block, page)
		if e != api.OK || !bytes.Equal(b, want[[2]int{block, page}]) {
			t.Error("block", block, "place", page, "has", b, e)
		}
	}
	if n != len(want) {
		t.Error(n, "pages, not", len(want))
	}
}

// stands is the block of the flash and the place at which a page of that number stands.
func stands(r api.Region, q int64) [2]int {
	block := q / 16
	return [2]int{r.From + int(block%int64(r.Blocks)), int(q - block*16)}
}

// cut is a record's leaves, the first one being the page q.
func cut(q, n int64, b []byte) (l []api.Leaf) {
	for {
		size := min(200, len(b))
		l = append(l, api.Leaf{Page: q + int64(len(l)), Record: n, Part: int64(len(l)), Data: b[:size]})
		if b = b[size:]; len(b) == 0 {
			break
		}
	}
	for i := range l {
		l[i].Many = int64(len(l))
	}
	return l
}

// The chapter's examples: the first record's page is the place 0 of the first block; a record of 201 bytes has two pages.
func TestExamples(t *testing.T) {
	f, l := fresh(t, 2)
	if n, e := l.Append('a'); n != 0 || e != api.OK {
		t.Fatal(n, e)
	}
	written(t, f, api.Region{Blocks: 2}, api.Leaf{Many: 1, Data: []byte("a")})
	puts(t, l, filled(201))
	if f.Used(0) != 3 {
		t.Error(f.Used(0), "pages")
	}
}

// P5.3: records of all lengths, each with as few pages as will do, one at least.
func TestAppendLengths(t *testing.T) {
	many := map[int]int{0: 1, 1: 1, 199: 1, 200: 1, 201: 2, 399: 2, 400: 2, 401: 3, 65400: 327, 65401: 328, api.MaxJournal: 328}
	for size, pages := range many {
		f, l := fresh(t, 40)
		b := filled(size)
		puts(t, l, b)
		holds(t, l, 0, b)
		x := cut(0, 0, b)
		if len(x) != pages {
			t.Fatal(size, "bytes have", len(x), "pages")
		}
		written(t, f, api.Region{Blocks: 40}, x...)
		holds(t, opened(t, f, api.Region{Blocks: 40}, 0), 0, b)
		if want := 40*16 - pages; l.Room() != want {
			t.Error(size, "bytes leave room for", l.Room(), "not", want)
		}
	}
}

// P5.3: a record has at most MaxJournal bytes, and its number is below MaxTime; both come ahead of ErrFull, and neither breaks the log.
func TestAppendTooLong(t *testing.T) {
	f, l := fresh(t, 2)
	refuses(t, f, l, api.ErrLong, filled(api.MaxJournal+1)...)
	refuses(t, f, l, api.ErrFull, filled(api.MaxJournal)...)
	f, l = fresh(t, 40)
	refuses(t, f, l, api.ErrLong, filled(api.MaxJournal+1)...)
	puts(t, l, nil)
	refuses(t, f, l, api.ErrLong, filled(api.MaxJournal+1)...)
	puts(t, l, filled(api.MaxJournal))

	f = made(t, 2)
	l = opened(t, f, api.Region{Blocks: 2}, api.MaxTime)
	refuses(t, f, l, api.ErrLong)
	refuses(t, f, l, api.ErrLong, filled(api.MaxJournal)...)
	l = opened(t, f, api.Region{Blocks: 2}, api.MaxTime-1)
	puts(t, l, []byte("last"))
	refuses(t, f, l, api.ErrLong)
	holds(t, l, api.MaxTime-1, []byte("last"))
	holds(t, opened(t, f, api.Region{Blocks: 2}, api.MaxTime-1), api.MaxTime-1, []byte("last"))
	same(t, l.Trim(api.MaxTime), api.OK)
	refuses(t, f, l, api.ErrLong)
}

// P5.3: the number of a record that is appended counts from first on, wherever that is, and needs no record ahead.
func TestAppendNumbers(t *testing.T) {
	for _, first := range []int64{0, 1, 1000, api.MaxTime - 3} {
		f := made(t, 3)
		r := api.Region{From: 1, Blocks: 2}
		l := opened(t, f, r, first)
		puts(t, l, []byte("a"), nil, []byte("c"))
		written(t, f, r, api.Leaf{Record: first, Many: 1, Data: []byte("a")}, api.Leaf{Page: 1, Record: first + 1, Many: 1}, api.Leaf{Page: 2, Record: first + 2, Many: 1, Data: []byte("c")})
		holds(t, l, first, []byte("a"), nil, []byte("c"))
	}
}

// wears fails the test, unless the flash's blocks were erased so often.
func wears(t *testing.T, f *flash.Flash, want ...int64) {
	t.Helper()
	var got []int64
	for b := range f.Blocks() {
		got = append(got, f.Wear(b))
	}
	if !slices.Equal(got, want) {
		t.Error("erased", got, "not", want)
	}
}

// P5.3: a record's pages go on over a block's end and over the ring's end; a block is erased for its first page, and for no other one; no other block of the flash is touched.
func TestAppendGoesRound(t *testing.T) {
	f := made(t, 5)
	r := api.Region{From: 1, Blocks: 3}
	l := opened(t, f, r, 0)
	wears(t, f, 0, 0, 0, 0, 0)
	pages(t, l, 14)
	wears(t, f, 0, 1, 0, 0, 0)
	pages(t, l, 3) // over a block's end
	wears(t, f, 0, 1, 1, 0, 0)
	pages(t, l, 15) // just up to a block's end
	wears(t, f, 0, 1, 1, 0, 0)
	pages(t, l, 15)
	wears(t, f, 0, 1, 1, 1, 0)
	same(t, l.Trim(3), api.OK)
	pages(t, l, 19) // over the ring's end, and over a block's end behind it
	wears(t, f, 0, 2, 2, 1, 0)
	written(t, f, r, slices.Concat(cut(32, 3, filled(15*200)), cut(47, 4, filled(19*200)))...)
	holds(t, opened(t, f, r, 3), 3, filled(15*200), filled(19*200))
	same(t, l.Trim(5), api.OK)
	for n := range int64(40) {
		puts(t, l, []byte{byte(n)}, filled(1000))
		same(t, l.Trim(l.Next()-1), api.OK)
		holds(t, opened(t, f, r, l.First()), l.First(), filled(1000))
	}
	if f.Wear(0) != 0 || f.Wear(4) != 0 || f.Used(0) != 0 || f.Used(4) != 0 {
		t.Error("another block was touched")
	}
}

// P5.3, P5.4: with records the last page is that ahead of the first record's block in the next round: just met it is good, passed by one page it is ErrFull, at whichever place the first record stands.
func TestFullWithRecords(t *testing.T) {
	for lead := range 33 {
		for blocks := 2; blocks <= 4; blocks++ {
			f, l := fresh(t, blocks)
			for range lead {
				puts(t, l, nil)
				same(t, l.Trim(l.Next()), api.OK)
			}
			puts(t, l, []byte("first"))
			room := (lead/16+blocks)*16 - lead - 1
			if l.Room() != room {
				t.Fatal("behind", lead, "pages of", blocks, "blocks:", l.Room(), "not", room)
			}
			if room > 0 {
				refuses(t, f, l, api.ErrFull, filled(room*200+1)...)
				pages(t, l, room)
			}
			if l.Room() != 0 {
				t.Error("room", l.Room())
			}
			refuses(t, f, l, api.ErrFull)
			first := l.First()
			if got := told(opened(t, f, api.Region{Blocks: blocks}, first)); len(got) == 0 || got[0].b != "first" {
				t.Fatal("the first record is gone:", got)
			}
		}
	}
}

// P5.3, P5.4: without records there is no such bound, but a record has at most the pages of all blocks but one, at whichever place it begins; then the records' bound holds.
func TestFullWithoutRecords(t *testing.T) {
	for lead := range 33 {
		for blocks := 2; blocks <= 4; blocks++ {
			f, l := fresh(t, blocks)
			for range lead {
				puts(t, l, nil)
				same(t, l.Trim(l.Next()), api.OK)
			}
			most := (blocks - 1) * 16
			if l.Room() != most {
				t.Fatal("behind", lead, "pages of", blocks, "blocks:", l.Room(), "not", most)
			}
			refuses(t, f, l, api.ErrFull, filled(most*200+1)...)
			pages(t, l, most)
			if want := 16 - lead%16; l.Room() != want {
				t.Error("room", l.Room(), "not", want)
			}
			holds(t, opened(t, f, api.Region{Blocks: blocks}, l.First()), l.First(), filled(most*200))
		}
	}
}

// P5.3: a record that is refused for want of room may be appended when there is some again.
func TestFullIsNotForever(t *testing.T) {
	f, l := fresh(t, 2)
	pages(t, l, 10)
	pages(t, l, 10)
	refuses(t, f, l, api.ErrFull, filled(13*200)...)
	same(t, l.Trim(1), api.OK)
	if l.Room() != 12 { // the second record begins in the first one's block
		t.Error(l.Room())
	}
	same(t, l.Trim(2), api.OK)
	if l.Room() != 16 {
		t.Error(l.Room())
	}
	pages(t, l, 13)
	holds(t, l, 2, filled(13*200))
}

// P5.4: Room counts pages ahead of and behind each call.
func TestRoom(t *testing.T) {
	_, l := fresh(t, 3)
	room := func(want int) {
		t.Helper()
		if l.Room() != want {
			t.Error("room for", l.Room(), "not", want)
		}
	}
	room(32)
	puts(t, l, nil)
	room(47)
	puts(t, l, filled(201))
	room(45)
	same(t, l.Trim(1), api.OK) // in the same block
	room(45)
	pages(t, l, 20)
	room(25)
	same(t, l.Trim(2), api.OK)
	room(25)
	pages(t, l, 1)
	room(24)
	same(t, l.Trim(3), api.OK) // its page is 23, in the second block
	room(40)
	same(t, l.Trim(4), api.OK)
	room(32)
	puts(t, l, nil)
	room(39)
}

// P5.4: Trim takes what is from First() to Next(), and nothing else; what it leaves is there.
func TestTrim(t *testing.T) {
	f, l := fresh(t, 3)
	records := [][]byte{[]byte("a"), filled(450), nil, filled(200), []byte("e")}
	puts(t, l, records...)
	for first := range int64(6) {
		was, before := f.Clone(), look(l)
		for _, n := range []int64{l.First() - 1, l.Next() + 1, -1, math.MinInt64, math.MaxInt64, api.MaxTime} {
			same(t, l.Trim(n), api.ErrArg)
		}
		if before != look(l) {
			t.Error(before, "is now", look(l))
		}
		same(t, l.Trim(first), api.OK) // one more than First(), but for the first time
		holds(t, l, first, records[first:]...)
		same(t, l.Trim(first), api.OK) // First() itself: nothing
		holds(t, l, first, records[first:]...)
		if !flash.Same(was, f) {
			t.Error("Trim has written")
		}
		holds(t, opened(t, f, api.Region{Blocks: 3}, first), first, records[first:]...)
	}
	holds(t, opened(t, f, api.Region{Blocks: 3}, 0), 0, records...) // who opens it says first
	puts(t, l, []byte("f"))
	holds(t, l, 5, []byte("f"))
	same(t, l.Trim(6), api.OK)
	same(t, l.Trim(5), api.ErrArg)
	f, l = fresh(t, 2)
	puts(t, l, records[0], records[1], records[2])
	same(t, l.Trim(3), api.OK) // all at once
	holds(t, l, 3)
}

// breaks cuts the power within the next change, and appends.
func breaks(t *testing.T, f *flash.Flash, l *journal.Log, keep int) {
	t.Helper()
	same(t, f.SetFuse(1, keep), api.OK)
	if n, e := l.Append(1); n != 0 || e != api.ErrDown || !l.Broken() {
		t.Fatal(n, e, l.Broken())
	}
}

// P5.3, P5.4: a log whose flash has answered an error is broken for good, also when the power is back: it tells its records, and that it is broken; all else is ErrBroken, ahead of what else would be.
func TestBroken(t *testing.T) {
	for keep := range 3 {
		f, l := fresh(t, 2)
		puts(t, l, []byte("a"), filled(300))
		same(t, l.Trim(1), api.OK)
		if l.Broken() {
			t.Error("broken too early")
		}
		breaks(t, f, l, keep)
		for range 2 {
			want := view{first: 1, next: 2, room: 0, many: 1, broken: true}
			if look(l) != want {
				t.Error(look(l))
			}
			holds(t, l, 1, filled(300))
			refuses(t, f, l, api.ErrBroken)
			refuses(t, f, l, api.ErrBroken, filled(api.MaxJournal+1)...)
			refuses(t, f, l, api.ErrBroken, filled(api.MaxJournal)...)
			for _, n := range []int64{-1, 0, 1, 2, 3} {
				same(t, l.Trim(n), api.ErrBroken)
			}
			f.Restart()
		}
	}
	f, l := fresh(t, 2)
	breaks(t, f, l, 0) // without a record too
	if want := (view{broken: true}); look(l) != want {
		t.Error(look(l))
	}
}

// P5.3: each error of flash.Erase and of flash.Program is the answer, and breaks the log: a flash that is down, a page that another one has programmed.
func TestErrorsOfTheFlash(t *testing.T) {
	fails := func(name string, l *journal.Log, want api.Errno, b ...byte) {
		t.Helper()
		if n, e := l.Append(b...); n != 0 || e != want || !l.Broken() {
			t.Error(name, n, e, l.Broken())
		}
		if n, e := l.Append(b...); n != 0 || e != api.ErrBroken {
			t.Error(name, n, e)
		}
	}
	f, l := fresh(t, 2)
	same(t, f.Crash(), api.OK)
	fails("down at Erase", l, api.ErrDown)
	f, l = fresh(t, 2)
	puts(t, l, nil)
	same(t, f.Crash(), api.OK)
	fails("down at Program", l, api.ErrDown)
	holds(t, l, 0, nil)
	f, l = fresh(t, 2)
	puts(t, l, nil)
	same(t, f.Program(0, 1, nil), api.OK)
	fails("a used page", l, api.ErrUsed)
	f, l = fresh(t, 2)
	puts(t, l, nil)
	same(t, f.Program(0, 3, nil), api.OK)
	fails("a used page at a later part", l, api.ErrUsed, filled(500)...)
	if f.Used(0) != 4 {
		t.Error(f.Used(0), "pages: the parts ahead of the error are to be there, and none behind it")
	}
	f, l = fresh(t, 2)
	same(t, f.Program(0, 0, nil), api.OK)
	puts(t, l, nil) // no error: the block is erased first
	same(t, f.SetFuse(16, 0), api.OK)
	fails("the power goes at the second block's Erase", l, api.ErrDown, filled(16*200)...)
}

// P5.3: ErrFull and ErrLong do not break it, nor do errors of other calls.
func TestRefusedIsNotBroken(t *testing.T) {
	f, l := fresh(t, 2)
	refuses(t, f, l, api.ErrFull, filled(17*200)...)
	refuses(t, f, l, api.ErrLong, filled(api.MaxJournal+1)...)
	same(t, l.Trim(1), api.ErrArg)
	puts(t, l, nil)
}

// R5: a log that no call made.
func TestNotMade(t *testing.T) {
	for _, l := range []*journal.Log{nil, {}, new(journal.Log)} {
		for _, b := range [][]byte{nil, {1}, filled(api.MaxJournal + 1)} {
			if n, e := l.Append(b...); n != 0 || e != api.ErrMade {
				t.Error(n, e)
			}
		}
		for _, n := range []int64{-1, 0, 1, math.MaxInt64} {
			same(t, l.Trim(n), api.ErrMade)
		}
		if (look(l) != view{}) {
			t.Error(look(l))
		}
		if l.Records() == nil {
			t.Error("no iterator")
		}
		for n, b := range l.Records() {
			t.Error(n, b)
		}
	}
}
