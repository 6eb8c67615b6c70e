package flash_test

import (
	"bytes"
	"fmt"
	"iter"
	"math"
	"math/rand"
	"slices"
	"testing"

	"trivet/api"
	"trivet/flash"
)

type place struct{ block, page int }

func made(t *testing.T, blocks int) *flash.Flash {
	t.Helper()
	f, e := flash.New(blocks)
	if e != api.OK || f == nil {
		t.Fatal(blocks, f, e)
	}
	return f
}

// ok fails the test at the first error that is none.
func ok(t *testing.T, l ...api.Errno) {
	t.Helper()
	for i, e := range l {
		if e != api.OK {
			t.Fatal("call", i, "answers", e)
		}
	}
}

// same fails the test where an error is not the one that is asked for.
func same(t *testing.T, got, want api.Errno) {
	t.Helper()
	if got != want {
		t.Error("answers", got, "not", want)
	}
}

// full is b as a page has it.
func full(b []byte) []byte {
	p := bytes.Repeat([]byte{255}, api.PageBytes)
	copy(p, b)
	return p
}

func list(s iter.Seq2[int, int]) []place {
	var l []place
	for b, p := range s {
		l = append(l, place{b, p})
	}
	return l
}

// told is all that can be read of a flash. It reads a clone, which is given the power if it has none.
func told(f *flash.Flash) string {
	s := fmt.Sprint(f.Blocks(), f.Down(), list(f.All()))
	c := f.Clone()
	if c.Down() {
		c.Restart()
	}
	for b := range c.Blocks() {
		s += fmt.Sprint(" ", b, f.Wear(b), f.Used(b))
		for p := range api.PagesPerBlock {
			x, e := c.Read(b, p)
			s += fmt.Sprint(e, x)
		}
	}
	return s
}

// reads fails the test, if a page has not these bytes.
func reads(t *testing.T, f *flash.Flash, block, page int, want []byte) {
	t.Helper()
	if b, e := f.Read(block, page); e != api.OK || !bytes.Equal(b, full(want)) {
		t.Error(block, page, b, e)
	}
}

// lacks fails the test, if a page is not read with this error, and nothing beside it.
func lacks(t *testing.T, f *flash.Flash, block, page int, want api.Errno) {
	t.Helper()
	if b, e := f.Read(block, page); e != want || b != nil {
		t.Error(block, page, b, e, "not", want)
	}
}

// P2.1: how many blocks there may be, and what a new flash is.
func TestNew(t *testing.T) {
	for _, n := range []int{0, -1, math.MinInt, api.MaxBlocks + 1, math.MaxInt} {
		if f, e := flash.New(n); f != nil || e != api.ErrArg {
			t.Error(n, f, e)
		}
	}
	for _, n := range []int{1, 2, 400, api.MaxBlocks - 1, api.MaxBlocks} {
		f := made(t, n)
		if f.Blocks() != n || f.Down() || len(list(f.All())) != 0 {
			t.Error(n, f.Blocks(), f.Down())
		}
		for b := range n {
			if f.Wear(b) != 0 || f.Used(b) != 0 {
				t.Fatal(n, b, f.Wear(b), f.Used(b))
			}
			for p := range api.PagesPerBlock {
				if x, e := f.Read(b, p); x != nil || e != api.ErrBlank {
					t.Fatal(n, b, p, x, e)
				}
			}
		}
	}
	f := made(t, 1) // no fuse: many changes, and the power is there
	for range 500 {
		ok(t, f.Erase(0))
	}
	if f.Wear(0) != 500 || f.Down() {
		t.Error(f.Wear(0))
	}
}

// P2.1: blocks, pages, bytes, places of bytes and counts that may not be; all that is refused changes nothing.
func TestArguments(t *testing.T) {
	f := made(t, 3)
	ok(t, f.Program(0, 0, nil), f.Program(2, 15, nil))
	was := f.Clone()
	for _, b := range []int{-1, 3, math.MinInt, math.MaxInt} {
		same(t, f.Program(b, 0, nil), api.ErrArg)
		same(t, f.Erase(b), api.ErrArg)
		same(t, f.Spoil(b, 0, 0, 1), api.ErrArg)
		lacks(t, f, b, 0, api.ErrArg)
		if f.Wear(b) != 0 || f.Used(b) != 0 {
			t.Error(b, f.Wear(b), f.Used(b))
		}
	}
	for _, p := range []int{-1, 16, math.MinInt, math.MaxInt} {
		same(t, f.Program(1, p, nil), api.ErrArg)
		same(t, f.Spoil(0, p, 0, 1), api.ErrArg)
		lacks(t, f, 0, p, api.ErrArg)
	}
	for _, at := range []int{-1, 256, math.MinInt, math.MaxInt} {
		same(t, f.Spoil(0, 0, at, 1), api.ErrArg)
	}
	same(t, f.Program(1, 0, make([]byte, 257)), api.ErrArg)
	same(t, f.Program(1, 0, make([]byte, 5000)), api.ErrArg)
	for _, count := range []int{0, -1, math.MinInt} {
		same(t, f.SetFuse(count, 1), api.ErrArg)
	}
	if !flash.Same(f, was) {
		t.Error(told(f))
	}
	ok(t, f.SetFuse(math.MaxInt, math.MinInt), f.Erase(0), f.Program(0, 15, nil), f.Program(2, 0, nil))
}

// P2.1: where several errors apply, which one is answered.
func TestErrorsInOrder(t *testing.T) {
	long := make([]byte, 257)
	var none *flash.Flash
	for _, f := range []*flash.Flash{none, {}} {
		same(t, f.Program(-1, -1, long), api.ErrMade)
		same(t, f.Program(0, 0, nil), api.ErrMade)
		lacks(t, f, -1, -1, api.ErrMade)
		lacks(t, f, 0, 0, api.ErrMade)
		same(t, f.Erase(-1), api.ErrMade)
		same(t, f.Erase(0), api.ErrMade)
		same(t, f.SetFuse(0, 0), api.ErrMade)
		same(t, f.SetFuse(1, 0), api.ErrMade)
		same(t, f.Crash(), api.ErrMade)
		same(t, f.Restart(), api.ErrMade)
		same(t, f.Spoil(-1, -1, -1, 1), api.ErrMade)
		same(t, f.Spoil(0, 0, 0, 1), api.ErrMade)
	}
	f := made(t, 2)
	ok(t, f.Program(0, 0, nil), f.SetFuse(1, 1))
	same(t, f.Program(0, 1, nil), api.ErrDown)
	was := f.Clone()
	for _, b := range []int{-1, 0, 1, 2} {
		for _, p := range []int{-1, 0, 1, 2, 16} {
			same(t, f.Program(b, p, nil), api.ErrDown)
			same(t, f.Program(b, p, long), api.ErrDown)
			lacks(t, f, b, p, api.ErrDown)
			same(t, f.Spoil(b, p, 0, 1), api.ErrDown)
			same(t, f.Spoil(b, p, -1, 1), api.ErrDown)
		}
		same(t, f.Erase(b), api.ErrDown)
	}
	same(t, f.SetFuse(1, 0), api.ErrDown)
	same(t, f.SetFuse(0, 0), api.ErrDown)
	same(t, f.Crash(), api.ErrDown)
	if !flash.Same(f, was) {
		t.Error(told(f))
	}
	ok(t, f.Restart()) // now pages' own states: 0 is used, 1 torn, 2 blank
	same(t, f.Program(0, 0, long), api.ErrArg)
	same(t, f.Program(0, 1, long), api.ErrArg)
	for p := range 3 {
		same(t, f.Spoil(0, p, 256, 1), api.ErrArg)
		same(t, f.Spoil(0, p, -1, 1), api.ErrArg)
	}
	same(t, f.Program(0, 0, nil), api.ErrUsed)
	same(t, f.Program(0, 1, nil), api.ErrUsed)
	same(t, f.Spoil(0, 1, 0, 1), api.ErrTorn)
	same(t, f.Spoil(0, 2, 0, 1), api.ErrBlank)
	lacks(t, f, 0, 1, api.ErrTorn)
	lacks(t, f, 0, 2, api.ErrBlank)
}

// P2.2: bytes of all lengths, with 255 behind them; a page is programmed once; an erased block is blank, and has one more wear.
func TestProgramReadErase(t *testing.T) {
	f := made(t, 18)
	draw := rand.New(rand.NewSource(1))
	want := map[place][]byte{}
	for n := range api.PageBytes + 1 {
		b := make([]byte, n)
		draw.Read(b)
		at := place{n / 16, n % 16}
		ok(t, f.Program(at.block, at.page, b))
		same(t, f.Program(at.block, at.page, b), api.ErrUsed)
		same(t, f.Program(at.block, at.page, nil), api.ErrUsed)
		want[at] = b
	}
	ok(t, f.Program(17, 15, []byte{}), f.Program(17, 0, bytes.Repeat([]byte{255}, 256)))
	for at, b := range want {
		reads(t, f, at.block, at.page, b)
	}
	reads(t, f, 17, 15, nil)
	reads(t, f, 17, 0, nil)
	same(t, f.Program(17, 15, nil), api.ErrUsed) // all of 255, and yet not blank
	ok(t, f.Erase(3), f.Erase(3), f.Erase(17))
	for p := range api.PagesPerBlock {
		lacks(t, f, 3, p, api.ErrBlank)
		lacks(t, f, 17, p, api.ErrBlank)
		reads(t, f, 2, p, want[place{2, p}])
		reads(t, f, 4, p, want[place{4, p}])
	}
	for b := range 18 {
		if w := f.Wear(b); w != map[int]int64{3: 2, 17: 1}[b] {
			t.Error(b, w)
		}
	}
	ok(t, f.Program(3, 7, []byte("again")))
	reads(t, f, 3, 7, []byte("again"))
}

// P2.3, P2.6: within a Program: nothing, a torn page, or all of it; no other page is touched.
func TestPowerGoesWithinProgram(t *testing.T) {
	for keep := -7; keep <= 7; keep++ {
		f := made(t, 3)
		ok(t, f.Program(1, 4, []byte("beside")), f.Erase(1), f.Program(1, 4, []byte("beside")), f.Program(1, 6, nil))
		was := f.Clone()
		ok(t, f.SetFuse(1, keep))
		same(t, f.Program(1, 5, []byte("x")), api.ErrDown)
		if !f.Down() {
			t.Fatal(keep)
		}
		ok(t, f.Restart())
		switch ((keep % 3) + 3) % 3 {
		case 0:
			lacks(t, f, 1, 5, api.ErrBlank)
		case 1:
			lacks(t, f, 1, 5, api.ErrTorn)
			same(t, f.Program(1, 5, nil), api.ErrUsed)
		case 2:
			reads(t, f, 1, 5, []byte("x"))
			ok(t, was.Program(1, 5, []byte("x")))
		}
		if done := flash.Same(f, was); done != (((keep%3)+3)%3 != 1) || f.Wear(1) != 1 {
			t.Error(keep, told(f))
		}
		reads(t, f, 1, 4, []byte("beside"))
		reads(t, f, 1, 6, nil)
		if n := f.Used(1); n != was.Used(1)+map[bool]int{true: 1}[((keep%3)+3)%3 == 1] || f.Used(0) != 0 || f.Used(2) != 0 {
			t.Error(keep, n)
		}
		for range 40 {
			ok(t, f.Erase(0)) // the fuse is gone
		}
	}
}

// P2.3, P2.6: within an Erase: nothing, all pages of the block torn, or all blank; no other block is touched.
func TestPowerGoesWithinErase(t *testing.T) {
	for _, keep := range []int{0, 1, 2, 3, 4, 5, -1, -2, -3, math.MaxInt, math.MinInt} {
		f := made(t, 3)
		for b := range 3 {
			ok(t, f.Program(b, 0, []byte{byte(b)}), f.Program(b, 15, nil))
		}
		was := f.Clone()
		ok(t, f.SetFuse(1, keep))
		same(t, f.Erase(1), api.ErrDown)
		if !f.Down() {
			t.Fatal(keep)
		}
		down := f.Clone()
		ok(t, f.Restart())
		m := ((keep % 3) + 3) % 3
		if f.Wear(1) != []int64{0, 1, 1}[m] || f.Used(1) != []int{2, 16, 0}[m] {
			t.Error(keep, f.Wear(1), f.Used(1))
		}
		switch m {
		case 0:
			reads(t, f, 1, 0, []byte{1})
			lacks(t, f, 1, 1, api.ErrBlank)
			if !flash.Same(f, was) {
				t.Error(keep, told(f))
			}
		case 1:
			for p := range api.PagesPerBlock {
				lacks(t, f, 1, p, api.ErrTorn)
				same(t, f.Program(1, p, nil), api.ErrUsed)
				same(t, f.Spoil(1, p, 0, 1), api.ErrTorn)
			}
		case 2:
			for p := range api.PagesPerBlock {
				lacks(t, f, 1, p, api.ErrBlank)
			}
			ok(t, was.Erase(1))
			if !flash.Same(f, was) {
				t.Error(keep, told(f))
			}
		}
		for _, b := range []int{0, 2} {
			reads(t, f, b, 0, []byte{byte(b)})
			reads(t, f, b, 15, nil)
			if f.Used(b) != 2 || f.Wear(b) != 0 || down.Used(b) != 2 {
				t.Error(keep, b, f.Used(b), f.Wear(b))
			}
		}
		ok(t, f.Erase(1), f.Program(1, 0, nil)) // torn pages are blank again
		reads(t, f, 1, 0, nil)
	}
}

// P2.3: which change is the count-th one: Programs and Erases that no error forbids, and nothing else.
func TestFuseCounts(t *testing.T) {
	for count := 1; count <= 6; count++ {
		f := made(t, 2)
		ok(t, f.Program(0, 0, nil), f.SetFuse(count, 2))
		for i := 1; i <= count; i++ {
			same(t, f.Program(0, 0, nil), api.ErrUsed)
			same(t, f.Program(0, 16, nil), api.ErrArg)
			same(t, f.Program(1, 1, make([]byte, 257)), api.ErrArg)
			same(t, f.Erase(2), api.ErrArg)
			same(t, f.SetFuse(0, 1), api.ErrArg)
			same(t, f.Restart(), api.ErrArg)
			ok(t, f.Spoil(0, 0, 3, 7))
			reads(t, f, 0, 0, map[bool][]byte{true: {255, 255, 255, 255 ^ 7}}[i%2 == 1])
			if f.Down() {
				t.Fatal(count, i)
			}
			e := api.OK
			if i%2 == 1 {
				e = f.Program(1, i, nil)
			} else {
				e = f.Erase(1)
			}
			if want := map[bool]api.Errno{true: api.ErrDown}[i == count]; e != want || f.Down() != (i == count) {
				t.Fatal(count, i, e)
			}
		}
	}
}

// P2.3: a second fuse takes the place of the first one; Crash takes the fuse, and Restart brings none back.
func TestFuseIsOne(t *testing.T) {
	f := made(t, 2)
	ok(t, f.SetFuse(1, 1), f.SetFuse(3, 2), f.Erase(0), f.Erase(0))
	same(t, f.Erase(0), api.ErrDown)
	ok(t, f.Restart())
	if f.Wear(0) != 3 || f.Used(0) != 0 {
		t.Error(told(f))
	}
	ok(t, f.SetFuse(3, 2), f.Erase(0), f.SetFuse(1, 0))
	same(t, f.Erase(0), api.ErrDown)
	ok(t, f.Restart())
	if f.Wear(0) != 4 {
		t.Error(f.Wear(0))
	}
	ok(t, f.SetFuse(2, 1), f.Crash())
	if !f.Down() {
		t.Error("it has the power")
	}
	ok(t, f.Restart())
	for range 10 {
		ok(t, f.Erase(1))
	}
	if f.Down() || f.Used(1) != 0 || f.Wear(1) != 10 {
		t.Error(told(f))
	}
}

// P2.3: the power: who has it is not given it again, who has none loses none; nothing that was programmed goes with it.
func TestCrashAndRestart(t *testing.T) {
	f := made(t, 2)
	same(t, f.Restart(), api.ErrArg)
	ok(t, f.Program(1, 3, []byte("kept")), f.Erase(0))
	was := f.Clone()
	ok(t, f.Crash())
	same(t, f.Crash(), api.ErrDown)
	if !f.Down() || f.Blocks() != 2 || f.Wear(0) != 1 || f.Used(1) != 1 || !slices.Equal(list(f.All()), []place{{1, 3}}) {
		t.Error(told(f))
	}
	c := f.Clone()
	if !c.Down() || !flash.Same(c, f) || flash.Same(f, was) {
		t.Error(told(c))
	}
	ok(t, f.Restart())
	same(t, f.Restart(), api.ErrArg)
	if f.Down() || !c.Down() || !flash.Same(f, was) || flash.Same(c, f) {
		t.Error(told(f))
	}
	reads(t, f, 1, 3, []byte("kept"))
	lacks(t, c, 1, 3, api.ErrDown)
}

// P2.4: pages that are not blank, torn ones too, by block, then by page; the range may end early, be done again, and does not follow what comes later.
func TestAll(t *testing.T) {
	f := made(t, 4)
	for _, at := range []place{{3, 15}, {0, 9}, {3, 0}, {0, 1}, {2, 4}, {0, 10}} {
		ok(t, f.Program(at.block, at.page, nil))
	}
	ok(t, f.SetFuse(1, 1))
	same(t, f.Program(2, 3, nil), api.ErrDown)
	want := []place{{0, 1}, {0, 9}, {0, 10}, {2, 3}, {2, 4}, {3, 0}, {3, 15}}
	s := f.All()
	for n := range len(want) {
		var l []place
		for b, p := range s {
			if l = append(l, place{b, p}); len(l) == n+1 {
				break
			}
		}
		if !slices.Equal(l, want[:n+1]) {
			t.Error(n, l)
		}
	}
	ok(t, f.Restart(), f.Erase(0), f.Program(1, 1, nil), f.Spoil(3, 0, 0, 1))
	if l := list(s); !slices.Equal(l, want) || !slices.Equal(list(s), want) {
		t.Error(l)
	}
	if l := list(f.All()); !slices.Equal(l, []place{{1, 1}, {2, 3}, {2, 4}, {3, 0}, {3, 15}}) {
		t.Error(l)
	}
	if u := []int{f.Used(0), f.Used(1), f.Used(2), f.Used(3)}; !slices.Equal(u, []int{0, 1, 2, 2}) {
		t.Error(u)
	}
	n := 0
	for b, p := range f.All() { // changes within the range are not seen by it
		ok(t, f.Erase(b), f.Program(b, (p+1)%16, nil))
		n++
	}
	if n != 5 {
		t.Error(n)
	}
}

// P2.4: one byte is turned, the others stay; twice is not at all; nothing with 0.
func TestSpoil(t *testing.T) {
	f := made(t, 2)
	b := []byte("some bytes of a page")
	ok(t, f.Program(1, 2, b), f.Program(1, 3, b))
	for _, at := range []int{0, 5, len(b), 255} {
		for _, with := range []byte{0, 1, 128, 255} {
			ok(t, f.Spoil(1, 2, at, with))
			want := full(b)
			want[at] ^= with
			reads(t, f, 1, 2, want)
			reads(t, f, 1, 3, b)
			same(t, f.Program(1, 2, b), api.ErrUsed)
			ok(t, f.Spoil(1, 2, at, with))
			reads(t, f, 1, 2, b)
		}
	}
	if f.Wear(1) != 0 || f.Used(1) != 2 {
		t.Error(told(f))
	}
}

// P2.4: a clone has all of it, and neither sees what the other one does.
func TestClone(t *testing.T) {
	f := made(t, 3)
	ok(t, f.Program(1, 1, []byte("one")), f.Erase(2), f.SetFuse(1, 1))
	same(t, f.Erase(0), api.ErrDown)
	ok(t, f.Restart(), f.SetFuse(3, 2))
	c := f.Clone()
	if c == f || !flash.Same(c, f) || !flash.Same(f, c) || told(c) != told(f) {
		t.Fatal(told(c))
	}
	was := told(f)
	ok(t, c.Spoil(1, 1, 0, 1), c.Program(1, 2, nil), c.Erase(0))
	same(t, c.Erase(1), api.ErrDown) // its fuse was cloned, and is its own
	if told(f) != was || flash.Same(c, f) {
		t.Error(told(f))
	}
	was = told(c)
	ok(t, f.Erase(2), f.Erase(1))
	same(t, f.Program(1, 2, []byte("two")), api.ErrDown)
	if told(c) != was || c.Wear(2) != 1 || f.Wear(2) != 2 {
		t.Error(told(c))
	}
}

// P2.4: each thing in which two may differ, alone.
func TestSame(t *testing.T) {
	first := made(t, 2)
	ok(t, first.Program(0, 0, []byte("a")), first.Program(0, 1, []byte("b")))
	for name, do := range map[string]func(*flash.Flash){
		"one more page":   func(f *flash.Flash) { f.Program(1, 15, nil) },
		"a byte":          func(f *flash.Flash) { f.Spoil(0, 1, 255, 1) },
		"wear":            func(f *flash.Flash) { f.Erase(1) },
		"a fuse":          func(f *flash.Flash) { f.SetFuse(1, 0) },
		"power":           func(f *flash.Flash) { f.Crash() },
		"a torn page":     func(f *flash.Flash) { f.SetFuse(1, 1); f.Program(1, 0, nil); f.Restart() },
		"an erased block": func(f *flash.Flash) { f.Erase(0) },
	} {
		f := first.Clone()
		if !flash.Same(f, first) || !flash.Same(f, f) {
			t.Error(name, "of a clone")
		}
		if do(f); flash.Same(f, first) || flash.Same(first, f) || !flash.Same(f, f.Clone()) {
			t.Error(name, "is not seen")
		}
	}
	if flash.Same(made(t, 1), made(t, 2)) || !flash.Same(made(t, 2), made(t, 2)) {
		t.Error("how many blocks")
	}
	other, blank := made(t, 1), made(t, 1) // torn and programmed without bytes are two things, and neither is blank
	ok(t, other.Program(0, 0, nil), blank.SetFuse(1, 1))
	same(t, blank.Program(0, 0, nil), api.ErrDown)
	if ok(t, blank.Restart()); flash.Same(other, blank) {
		t.Error("torn and programmed")
	}
}

// P2.4: fuses are the same by their counts, and by their keeps as these are mod 3.
func TestSameFuses(t *testing.T) {
	set := func(count, keep int) *flash.Flash {
		f := made(t, 1)
		ok(t, f.SetFuse(count, keep))
		return f
	}
	for a := -4; a <= 4; a++ {
		for b := -4; b <= 4; b++ {
			if s := flash.Same(set(2, a), set(2, b)); s != ((a-b)%3 == 0) {
				t.Error(a, b, s)
			}
		}
	}
	if flash.Same(set(2, 1), set(3, 1)) || flash.Same(set(1, 0), made(t, 1)) {
		t.Error("counts")
	}
	if !flash.Same(set(7, math.MinInt), set(7, math.MinInt%3+3)) || !flash.Same(set(7, math.MaxInt), set(7, math.MaxInt%3)) {
		t.Error("keeps")
	}
	a, b := set(3, 1), made(t, 1) // a count that has burnt down is as one that was set so
	if ok(t, a.Erase(0), b.Erase(0), b.SetFuse(2, 4)); !flash.Same(a, b) {
		t.Error("a count that has burnt down")
	}
	a, b = set(1, 1), set(1, 2) // of a fuse that is gone its keep is not seen
	ok(t, a.Crash(), b.Crash())
	if !flash.Same(a, b) {
		t.Error("a fuse that is gone")
	}
	a, b = set(1, 2), made(t, 1)
	same(t, a.Erase(0), api.ErrDown)
	if ok(t, b.Erase(0), b.Crash()); !flash.Same(a, b) {
		t.Error("a fuse that has gone off")
	}
}

// R5: what no call made answers zero values.
func TestNotMade(t *testing.T) {
	var none *flash.Flash
	good := made(t, 1)
	for _, f := range []*flash.Flash{none, {}} {
		if f.Blocks() != 0 || f.Wear(0) != 0 || f.Used(0) != 0 || f.Down() || f.Clone() != nil || f.All() == nil || len(list(f.All())) != 0 {
			t.Error("what no call made tells something")
		}
		if flash.Same(f, good) || flash.Same(good, f) || flash.Same(f, f) || flash.Same(f, none) || flash.Same(&flash.Flash{}, f) {
			t.Error("what no call made is the same as something")
		}
	}
}

// R3: bytes that are handed in are not written to or kept; those that are answered are nobody else's.
func TestBytesAreNobodyElses(t *testing.T) {
	f := made(t, 1)
	for _, n := range []int{0, 3, 255, 256} {
		ok(t, f.Erase(0))
		room := bytes.Repeat([]byte{7}, 600)
		ok(t, f.Program(0, 0, room[:n]))
		if !bytes.Equal(room, bytes.Repeat([]byte{7}, 600)) {
			t.Error(n, room)
		}
		clear(room)
		want := full(bytes.Repeat([]byte{7}, n))
		reads(t, f, 0, 0, want)
		a, _ := f.Read(0, 0)
		b, _ := f.Read(0, 0)
		clear(a[:cap(a)])
		if !bytes.Equal(b, want) {
			t.Error(n, b)
		}
		reads(t, f, 0, 0, want)
		c := f.Clone()
		ok(t, f.Spoil(0, 0, 0, 255))
		if reads(t, c, 0, 0, want); !bytes.Equal(b, want) {
			t.Error(n, b)
		}
	}
}

// The chapter's example.
func TestExample(t *testing.T) {
	f := made(t, 2)
	ok(t, f.Program(1, 3, []byte("a")))
	same(t, f.Program(1, 3, []byte("a")), api.ErrUsed)
	b, e := f.Read(1, 3)
	if e != api.OK || len(b) != 256 || b[0] != 'a' || !bytes.Equal(b[1:], bytes.Repeat([]byte{255}, 255)) {
		t.Error(b, e)
	}
	ok(t, f.SetFuse(1, 1))
	same(t, f.Erase(1), api.ErrDown)
	ok(t, f.Restart())
	lacks(t, f, 1, 0, api.ErrTorn)
	ok(t, f.Erase(1))
	if f.Wear(1) != 2 {
		t.Error(f.Wear(1))
	}
}
