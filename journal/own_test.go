package journal_test

import (
	"bytes"
	"runtime"
	"slices"
	"testing"

	"trivet/api"
	"trivet/flash"
	"trivet/journal"
)

// scribble writes over all of a list, with all its room.
func scribble(b []byte) {
	b = b[:cap(b)]
	for i := range b {
		b[i] = 77
	}
}

// roomy is b with room behind it that is not to be written to.
func roomy(b []byte) []byte {
	return append(make([]byte, 0, len(b)+300), b...)
}

// untouched fails the test, unless roomy bytes are what they were.
func untouched(t *testing.T, b, want []byte) {
	t.Helper()
	if all := b[:cap(b)]; !bytes.Equal(all, append(slices.Clone(want), make([]byte, cap(b)-len(want))...)) {
		t.Error("written to:", all)
	}
}

// R3: what Append is handed is not written to, and what its owner does to it afterwards is seen neither in the log nor on the flash.
func TestAppendedIsCopied(t *testing.T) {
	for _, size := range []int{0, 1, 200, 201, 1000} {
		f, l := fresh(t, 2)
		b := roomy(filled(size))
		puts(t, l, b)
		untouched(t, b, filled(size))
		scribble(b)
		holds(t, l, 0, filled(size))
		holds(t, opened(t, f, api.Region{Blocks: 2}, 0), 0, filled(size))
	}
}

// R3: what Records tells is nobody else's: not the log's, not another record's, not the next range's over the same iterator.
func TestToldIsNobodyElses(t *testing.T) {
	f, l := fresh(t, 3)
	want := [][]byte{filled(3), nil, filled(200), filled(700), filled(3)}
	puts(t, l, want...)
	again := opened(t, f, api.Region{Blocks: 3}, 0)
	for _, l := range []*journal.Log{l, again} {
		all := l.Records()
		for range 2 {
			n := 0
			for k, b := range all {
				if k != int64(n) || !bytes.Equal(b, want[n]) {
					t.Error(k, b)
				}
				n++
				scribble(b)
			}
			if n != len(want) {
				t.Error(n, "records")
			}
		}
		holds(t, l, 0, want...)
	}
	holds(t, opened(t, f, api.Region{Blocks: 3}, 0), 0, want...)
}

// R3: an iterator tells what was there when it was asked for, whatever was done since, also while it is gone through; a range may stop anywhere and be done again.
func TestRecordsStay(t *testing.T) {
	f, l := fresh(t, 3)
	want := []pair{{0, "a"}, {1, ""}, {2, "c"}, {3, string(filled(300))}}
	puts(t, l, []byte("a"), nil, []byte("c"), filled(300))
	all, none := l.Records(), opened(t, f, api.Region{Blocks: 3}, 9).Records()
	check := func(when string) {
		t.Helper()
		for stop := range 6 {
			var got []pair
			for n, b := range all {
				if len(got) == stop {
					break
				}
				got = append(got, pair{n, string(b)})
			}
			if !slices.Equal(got, want[:min(stop, len(want))]) {
				t.Error(when, got)
			}
		}
		for n, b := range none {
			t.Error(when, n, b)
		}
	}
	check("at once")
	puts(t, l, []byte("e"))
	check("behind Append")
	same(t, l.Trim(3), api.OK)
	check("behind Trim")
	puts(t, l, []byte("f"))
	same(t, l.Trim(6), api.OK)
	puts(t, l, []byte("g"), []byte("h"), []byte("i"))
	check("behind Trim to nothing, and more records")
	breaks(t, f, l, 0)
	check("behind a break")
	same(t, f.Restart(), api.OK)
	l = opened(t, f, api.Region{Blocks: 3}, 6)
	var got []int64
	for n := range l.Records() {
		got = append(got, n)
		if n == 6 {
			same(t, l.Trim(8), api.OK)
			puts(t, l, nil)
		}
	}
	if !slices.Equal(got, []int64{6, 7, 8}) {
		t.Error("while it is changed:", got)
	}
}

// R3: Page's and ParsePage's bytes are apart from what they are made of.
func TestPagesAreNobodyElses(t *testing.T) {
	data := roomy(filled(150))
	x := api.Leaf{Page: 1, Record: 2, Many: 1, Data: data}
	p, e := journal.Page(x)
	same(t, e, api.OK)
	untouched(t, data, filled(150))
	keep := slices.Clone(p)
	scribble(data)
	if !bytes.Equal(p, keep) {
		t.Error("the page has followed the leaf")
	}
	again, e := journal.Page(api.Leaf{Page: 1, Record: 2, Many: 1, Data: filled(150)})
	same(t, e, api.OK)
	scribble(p)
	if !bytes.Equal(again, keep) {
		t.Error("two pages share their bytes")
	}
	b := roomy(keep)
	y, ok := journal.ParsePage(b)
	untouched(t, b, keep)
	scribble(b)
	if !ok || !bytes.Equal(y.Data, filled(150)) {
		t.Error("the leaf has followed the page")
	}
	b = roomy(keep)
	y, _ = journal.ParsePage(b)
	scribble(y.Data)
	untouched(t, b, keep)
}

// R3: two logs of two regions of one flash do not see each other.
func TestRegionsApart(t *testing.T) {
	f := made(t, 4)
	a, b := api.Region{Blocks: 2}, api.Region{From: 2, Blocks: 2}
	l, m := opened(t, f, a, 0), opened(t, f, b, 0)
	for n := range 50 {
		puts(t, l, []byte{byte(n)})
		puts(t, m, filled(300+n))
		same(t, l.Trim(l.Next()-1), api.OK)
		same(t, m.Trim(m.Next()-1), api.OK)
		holds(t, opened(t, f, a, int64(n)), int64(n), []byte{byte(n)})
		holds(t, opened(t, f, b, int64(n)), int64(n), filled(300+n))
	}
}

// R4: a nil list and an empty one are the same record, and the same leaf's bytes.
func TestNilIsEmpty(t *testing.T) {
	f, l := fresh(t, 2)
	g, m := fresh(t, 2)
	puts(t, l, nil)
	puts(t, m, []byte{})
	if !flash.Same(f, g) {
		t.Error("not the same")
	}
	a, e := journal.Page(api.Leaf{Many: 1})
	b, d := journal.Page(api.Leaf{Many: 1, Data: []byte{}})
	if e != api.OK || d != api.OK || !bytes.Equal(a, b) {
		t.Error(a, e, b, d)
	}
}

// R6: the same calls answer the same.
func TestTheSameAgain(t *testing.T) {
	run := func() (*flash.Flash, []pair) {
		f, l := fresh(t, 4)
		for n := range 200 {
			puts(t, l, filled(n*7%700))
			if l.Room() < 20 {
				same(t, l.Trim(l.Next()-2), api.OK)
			}
		}
		return f, told(opened(t, f, api.Region{Blocks: 4}, l.First()))
	}
	f, a := run()
	for range 5 {
		g, b := run()
		if !flash.Same(f, g) || !slices.Equal(a, b) {
			t.Fatal("not the same")
		}
	}
}

// spent is how many bytes of memory are asked for meanwhile.
func spent(do func()) uint64 {
	var a, b runtime.MemStats
	runtime.ReadMemStats(&a)
	do()
	runtime.ReadMemStats(&b)
	return b.TotalAlloc - a.TotalAlloc
}

// linear fails the test, if eight times as much takes far more than eight times the memory.
func linear(t *testing.T, name string, of func(n int) func()) {
	t.Helper()
	small, great := spent(of(1)), spent(of(8))
	if great > 16*small+1<<16 {
		t.Error(name, "takes", small, "and of eight times as much", great)
	}
}

// THE BOUND: opening takes as much as the region has pages, also where each one begins a run that ends at once; appending as much as is handed in; telling as much as there is.
func TestBound(t *testing.T) {
	linear(t, "Open", func(n int) func() {
		f, l := fresh(t, 100*n)
		for l.Room() > 328 {
			puts(t, l, filled(api.MaxJournal))
		}
		return func() { opened(t, f, api.Region{Blocks: 100 * n}, 0) }
	})
	linear(t, "Open of runs that are none", func(n int) func() {
		r := api.Region{Blocks: 100 * n}
		f := made(t, r.Blocks)
		for q := range int64(r.Blocks * api.PagesPerBlock) {
			at := stands(r, q)
			same(t, f.Program(at[0], at[1], sheet(part(q, q%3, q%100, api.MaxJournal))), api.OK)
		}
		return func() { opened(t, f, r, 0) }
	})
	linear(t, "Append", func(n int) func() {
		_, l := fresh(t, 30)
		b := filled(8000 * n)
		return func() { puts(t, l, b) }
	})
	linear(t, "Appends", func(n int) func() {
		_, l := fresh(t, 800)
		return func() {
			for range 1500 * n {
				puts(t, l, nil)
			}
		}
	})
	linear(t, "Records and Trim", func(n int) func() {
		_, l := fresh(t, 800)
		for range 1500 * n {
			puts(t, l, []byte{1, 2, 3})
		}
		return func() { told(l); same(t, l.Trim(700), api.OK) }
	})
	l := opened(t, made(t, 2), api.Region{Blocks: 2}, 0)
	long := filled(1 << 20)
	if n := spent(func() { l.Append(long...); journal.ParsePage(long); journal.Page(api.Leaf{Many: 1, Data: long}) }); n > 1<<12 {
		t.Error("what is refused takes", n)
	}
}

// What is kept: records that are trimmed are held no more.
func TestTrimmedIsNotKept(t *testing.T) {
	_, l := fresh(t, 1000)
	for range 40 {
		puts(t, l, filled(api.MaxJournal))
	}
	before := live()
	same(t, l.Trim(l.Next()-1), api.OK)
	if after := live(); before-after < 38*api.MaxJournal {
		t.Error("of", before, "there is still", after)
	}
	runtime.KeepAlive(l)
}

// live is how many bytes are in use.
func live() int64 {
	runtime.GC()
	runtime.GC()
	var m runtime.MemStats
	runtime.ReadMemStats(&m)
	return int64(m.HeapAlloc)
}
