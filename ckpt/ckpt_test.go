package ckpt_test

import (
	"math"
	"slices"
	"testing"

	"trivet/api"
	"trivet/ckpt"
	"trivet/flash"
)

const blockBytes = 4096

func made(t *testing.T, blocks int) *flash.Flash {
	t.Helper()
	f, e := flash.New(blocks)
	if f == nil || e != api.OK {
		t.Fatal(blocks, e)
	}
	return f
}

// saved is a checkpoint of these.
func saved(slot, last int64, data string) api.Saved {
	return api.Saved{Slot: slot, Last: last, Data: []byte(data)}
}

// saves fails the test, unless each one is saved.
func saves(t *testing.T, f *flash.Flash, r api.Region, l ...api.Saved) {
	t.Helper()
	for _, s := range l {
		if e := ckpt.Save(f, r, s); e != api.OK {
			t.Fatal(s.Slot, s.Last, len(s.Data), "is not saved:", e)
		}
	}
}

// lays programs bytes to the pages of a flash from a block's page on, as a whole half would be written, or by another hand.
func lays(t *testing.T, f *flash.Flash, block, page int, b []byte) {
	t.Helper()
	for part := range slices.Chunk(b, api.PageBytes) {
		if e := f.Program(block, page, part); e != api.OK {
			t.Fatal(block, page, e)
		}
		block, page = block+(page+1)/16, (page+1)%16
	}
}

// tears lets the power go at a page, and gives it back.
func tears(t *testing.T, f *flash.Flash, block, page int) {
	t.Helper()
	same(t, f.SetFuse(1, 1), api.OK)
	same(t, f.Program(block, page, nil), api.ErrDown)
	same(t, f.Restart(), api.OK)
}

// holds fails the test, unless the newest one of a region is this, of that number, in that half.
func holds(t *testing.T, f *flash.Flash, r api.Region, half int, number int64, want api.Saved) {
	t.Helper()
	if s, has, e := ckpt.Load(f, r); !alike(s, want) || !has || e != api.OK {
		t.Error("Load answers", s.Slot, s.Last, len(s.Data), has, e, "not", want.Slot, want.Last, len(want.Data))
	}
	if h, n, has := ckpt.Half(f, r); h != half || n != number || !has {
		t.Error("Half answers", h, n, has, "not", half, number)
	}
}

// lacks fails the test, unless a region has no checkpoint, Load answering this.
func lacks(t *testing.T, f *flash.Flash, r api.Region, want api.Errno) {
	t.Helper()
	if s, has, e := ckpt.Load(f, r); s.Slot != 0 || s.Last != 0 || s.Data != nil || has || e != want {
		t.Error("Load answers", s.Slot, s.Last, len(s.Data), has, e, "not", want)
	}
	if h, n, has := ckpt.Half(f, r); h != 0 || n != 0 || has {
		t.Error("Half answers", h, n, has)
	}
}

// stays fails the test, unless Save answers this, and has changed nothing.
func stays(t *testing.T, f *flash.Flash, r api.Region, s api.Saved, want api.Errno) {
	t.Helper()
	was := f.Clone()
	same(t, ckpt.Save(f, r, s), want)
	if f.Blocks() > 0 && !flash.Same(f, was) {
		t.Error("what is refused has changed the flash")
	}
}

// The chapter's example.
func TestExample(t *testing.T) {
	f, r := made(t, 2), api.Region{Blocks: 2}
	lacks(t, f, r, api.OK)
	saves(t, f, r, saved(5, 1, "x"))
	if f.Used(0) != 1 || f.Used(1) != 0 {
		t.Error(f.Used(0), f.Used(1))
	}
	holds(t, f, r, 0, 1, saved(5, 1, "x"))
	saves(t, f, r, saved(9, 2, "y"))
	if f.Used(0) != 1 || f.Used(1) != 1 || f.Wear(0) != 0 || f.Wear(1) != 0 {
		t.Error(f.Used(0), f.Used(1), f.Wear(0), f.Wear(1))
	}
	holds(t, f, r, 1, 2, saved(9, 2, "y"))
	for change := 1; change <= 2; change++ { // an Erase, and a Program
		for keep := range 3 {
			g := f.Clone()
			same(t, g.SetFuse(change, keep), api.OK)
			same(t, ckpt.Save(g, r, saved(11, 2, "z")), api.ErrDown)
			lacks(t, g, r, api.ErrDown)
			same(t, g.Restart(), api.OK)
			if change == 2 && keep == 2 {
				holds(t, g, r, 0, 3, saved(11, 2, "z"))
			} else {
				holds(t, g, r, 1, 2, saved(9, 2, "y"))
			}
		}
	}
	same(t, f.Crash(), api.OK)
	lacks(t, f, r, api.ErrDown)
	same(t, f.Restart(), api.OK)
	holds(t, f, r, 1, 2, saved(9, 2, "y"))
}

// P6.2, P6.3: which regions may be, of Save, Load and Half alike.
func TestRegions(t *testing.T) {
	f := made(t, 7)
	for _, r := range []api.Region{
		{From: -1, Blocks: 2}, {From: -2, Blocks: 4}, {From: math.MinInt, Blocks: 2}, {From: math.MinInt, Blocks: math.MaxInt - 1}, {From: math.MinInt, Blocks: math.MinInt},
		{}, {From: 3}, {Blocks: 1}, {Blocks: 3}, {Blocks: 5}, {Blocks: 7}, {From: 2, Blocks: 5},
		{Blocks: -1}, {Blocks: -2}, {From: 4, Blocks: -2}, {Blocks: math.MinInt},
		{Blocks: 8}, {From: 1, Blocks: 8}, {From: 2, Blocks: 6}, {From: 6, Blocks: 2}, {From: 7, Blocks: 2}, {From: 8, Blocks: 2}, {From: 7}, {From: 4, Blocks: 4},
		{Blocks: math.MaxInt}, {Blocks: math.MaxInt - 1}, {From: math.MaxInt, Blocks: 2}, {From: math.MaxInt - 1, Blocks: 2}, {From: math.MaxInt, Blocks: math.MaxInt - 1}, {From: 2, Blocks: math.MaxInt - 1}, {From: -1, Blocks: math.MaxInt - 1}, {From: 5, Blocks: math.MinInt},
	} {
		stays(t, f, r, saved(1, 1, "x"), api.ErrArg)
		lacks(t, f, r, api.ErrArg)
	}
	for _, r := range []api.Region{{Blocks: 2}, {From: 5, Blocks: 2}, {Blocks: 6}, {From: 1, Blocks: 6}, {From: 3, Blocks: 4}} {
		f := made(t, 7)
		lacks(t, f, r, api.OK)
		for n := range int64(5) {
			s := saved(n, 1, "x")
			saves(t, f, r, s)
			holds(t, f, r, int(n%2), n+1, s)
			if block := r.From + int(n%2)*r.Blocks/2; f.Used(block) != 1 {
				t.Error(r, n, "is not in the block", block)
			}
		}
	}
}

// P6.1 to P6.3, R2, R5: where several errors apply, which one is answered; what is refused changes nothing.
func TestErrorsInOrder(t *testing.T) {
	r, bad := api.Region{From: 1, Blocks: 2}, api.Region{From: 1, Blocks: 3}
	long := api.Saved{Data: make([]byte, api.MaxState+1)}
	wide := api.Saved{Data: make([]byte, blockBytes)} // which is too long for a block alone
	wrong := []api.Saved{{Slot: -1}, {Last: -1}, {Slot: top + 1}, {Last: top + 1}, {Slot: -1, Data: long.Data}, {Last: top + 1, Data: wide.Data}}
	all := append([]api.Saved{{}, long, wide}, wrong...)
	var none *flash.Flash
	for _, f := range []*flash.Flash{none, {}} {
		for _, r := range []api.Region{r, bad, {}, {Blocks: 2}} {
			for _, s := range all {
				same(t, ckpt.Save(f, r, s), api.ErrMade)
			}
			lacks(t, f, r, api.ErrMade)
		}
	}
	for name, f := range map[string]*flash.Flash{"blank": made(t, 4), "with a checkpoint": made(t, 4), "with the last one": made(t, 4)} {
		full := name == "with the last one"
		switch name {
		case "with a checkpoint":
			saves(t, f, r, saved(1, 1, "x"))
		case "with the last one":
			lays(t, f, 2, 0, written(top, saved(1, 1, "x")))
		}
		down := f.Clone()
		same(t, down.Crash(), api.OK)
		for _, s := range all {
			stays(t, f, bad, s, api.ErrArg)
			stays(t, down, bad, s, api.ErrArg)
		}
		lacks(t, f, bad, api.ErrArg)
		lacks(t, down, bad, api.ErrArg)
		for _, s := range wrong {
			stays(t, f, r, s, api.ErrArg)
			stays(t, down, r, s, api.ErrArg)
		}
		stays(t, f, r, long, api.ErrLong)
		stays(t, down, r, long, api.ErrLong)
		stays(t, down, r, wide, api.ErrDown)
		stays(t, down, r, saved(2, 2, "y"), api.ErrDown)
		lacks(t, down, r, api.ErrDown)
		if full {
			stays(t, f, r, wide, api.ErrFull)
			stays(t, f, r, saved(2, 2, "y"), api.ErrFull)
			holds(t, f, r, 1, top, saved(1, 1, "x"))
			continue
		}
		stays(t, f, r, wide, api.ErrLong)
		same(t, f.SetFuse(1, 0), api.OK)
		stays(t, f, r, wide, api.ErrLong) // ahead of any change
		same(t, ckpt.Save(f, r, saved(2, 2, "y")), api.ErrDown)
	}
}

// P6.3: the number MaxTime is the last one, and it is reached.
func TestNumbersEnd(t *testing.T) {
	for half := range 2 {
		f, r := made(t, 2), api.Region{Blocks: 2}
		lays(t, f, half, 0, written(top-2, saved(1, 1, "a")))
		saves(t, f, r, saved(2, 2, "b"))
		holds(t, f, r, 1-half, top-1, saved(2, 2, "b"))
		saves(t, f, r, saved(3, 3, "c"))
		holds(t, f, r, half, top, saved(3, 3, "c"))
		for range 3 {
			stays(t, f, r, saved(4, 4, "d"), api.ErrFull)
		}
		holds(t, f, r, half, top, saved(3, 3, "c"))
	}
	f := made(t, 2) // a number that may not be is none, and is not gone on from
	lays(t, f, 0, 0, written(top+1, saved(1, 1, "a")))
	lays(t, f, 1, 0, written(0, saved(1, 1, "a")))
	lacks(t, f, api.Region{Blocks: 2}, api.OK)
	saves(t, f, api.Region{Blocks: 2}, saved(2, 2, "b"))
	holds(t, f, api.Region{Blocks: 2}, 0, 1, saved(2, 2, "b"))
}

// P6.1: how many bytes always fit, of regions of each size, also of those that may not be.
func TestMost(t *testing.T) {
	for blocks, want := range map[int]int{
		math.MinInt: 0, -2: 0, -1: 0, 0: 0, 1: 0, 2: 4032, 3: 4032, 4: 8128, 5: 8128, 6: 12224,
		254: 127*4096 - 64, 255: 127*4096 - 64, 256: 1<<19 - 64, 257: 1<<19 - 64, 258: 1 << 19, 259: 1 << 19, 260: 1 << 19,
		1022: 1 << 19, 1023: 1 << 19, 1024: 1 << 19, 1025: 0, 1026: 0, 2048: 0, math.MaxInt: 0, math.MaxInt - 1: 0,
	} {
		for _, from := range []int{0, 5, -1, 1024, math.MaxInt, math.MinInt} {
			if n := ckpt.Most(api.Region{From: from, Blocks: blocks}); n != want {
				t.Error(from, blocks, "have", n, "not", want)
			}
		}
	}
}

// P6.6: what has at most Most bytes is never too long, with the longest numbers; and a half takes what is just as long as it, and no more.
func TestMostFits(t *testing.T) {
	for blocks := 2; blocks <= api.MaxBlocks; blocks++ {
		n := ckpt.Most(api.Region{Blocks: blocks})
		form := 7*3 + len(numeral(int64(n))) + n // three numbers of MaxTime, and the data
		if form += len(numeral(int64(form))) + 8; form > blocks/2*blockBytes {
			t.Fatal(blocks, "blocks: of", n, "bytes are made", form)
		}
	}
	for _, blocks := range []int{2, 4, 6, 8, 16, 254, 256, 258, 260, 1024} {
		r := api.Region{Blocks: blocks}
		f := made(t, blocks)
		lays(t, f, 0, 0, written(top-2, api.Saved{}))
		for n := range int64(2) {
			s := api.Saved{Slot: top, Last: top - n, Data: filled(ckpt.Most(r))}
			saves(t, f, r, s)
			holds(t, f, r, 1-int(n), top-1+n, s)
		}
	}
}

// P6.3: bytes that end just at a page's or at the half's end, one less and one more: as many pages as they need, the last one with what is left.
func TestEnds(t *testing.T) {
	for _, blocks := range []int{2, 4} {
		r := api.Region{From: 1, Blocks: blocks}
		most := blocks / 2 * blockBytes
		for _, size := range []int{255, 256, 257, 511, 512, 513, 4095, 4096, 4097, most - 256, most - 1, most, most + 1} {
			f := made(t, blocks+2)
			s := sized(t, 1, 1000, 7, size)
			if size > most {
				stays(t, f, r, s, api.ErrLong)
				lacks(t, f, r, api.OK)
				continue
			}
			saves(t, f, r, s)
			holds(t, f, r, 0, 1, s)
			want := made(t, blocks+2)
			lays(t, want, 1, 0, written(1, s))
			if !flash.Same(f, want) {
				t.Error(blocks, size, "is not as it is to be")
			}
			saves(t, f, r, s)
			holds(t, f, r, 1, 2, s)
			lays(t, want, 1+blocks/2, 0, written(2, s))
			if !flash.Same(f, want) {
				t.Error(blocks, size, "in the second half is not as it is to be")
			}
		}
	}
}

// P6.3: what just fits with a number is too long with a longer one; then nothing is changed, and what is shorter can still be saved.
func TestLongerNumber(t *testing.T) {
	r := api.Region{Blocks: 2}
	for _, n := range []int64{255, 65535, 1<<24 - 1} {
		for half := range 2 {
			f := made(t, 2)
			s := sized(t, n, 3, 4, blockBytes)
			lays(t, f, half, 0, written(n-1, saved(1, 1, "a")))
			saves(t, f, r, s)
			holds(t, f, r, 1-half, n, s)
			stays(t, f, r, s, api.ErrLong)
			holds(t, f, r, 1-half, n, s)
			less := api.Saved{Slot: s.Slot, Last: s.Last, Data: s.Data[1:]}
			saves(t, f, r, less)
			holds(t, f, r, half, n+1, less)
		}
	}
}

// P6.2: with a checkpoint in none, one or both of the halves: the greater number's is the newest one, of the same numbers that of the half 0.
func TestNewest(t *testing.T) {
	r := api.Region{From: 1, Blocks: 4}
	for a := range int64(4) { // 0: none
		for b := range int64(4) {
			f := made(t, 6)
			if a > 0 {
				lays(t, f, 1, 0, written(a, saved(10+a, 1, "first")))
			}
			if b > 0 {
				lays(t, f, 3, 0, written(b, saved(20+b, 2, "second")))
			}
			next := 0
			switch {
			case a == 0 && b == 0:
				lacks(t, f, r, api.OK)
			case a >= b:
				holds(t, f, r, 0, a, saved(10+a, 1, "first"))
				next = 1
			default:
				holds(t, f, r, 1, b, saved(20+b, 2, "second"))
			}
			saves(t, f, r, saved(30, 3, "third"))
			holds(t, f, r, next, max(a, b)+1, saved(30, 3, "third"))
		}
	}
}

// five is a checkpoint of five pages.
func five() api.Saved { return api.Saved{Slot: 8, Last: 3, Data: filled(1200)} }

// P6.2: a half's checkpoint is what its pages up to the first blank or torn one begin with: of five pages none may lack, and what stands behind them is not asked.
func TestPagesUpToTheFirst(t *testing.T) {
	r := api.Region{Blocks: 4}
	other := slices.Repeat([]byte{9}, 256)
	whole := written(6, five())
	for half := range 2 {
		for at := range 32 {
			for _, how := range []string{"blank", "torn", "other", "blank from it on", "torn from it on", "other from it on"} {
				f := made(t, 4)
				lays(t, f, 2-2*half, 0, written(4, saved(1, 1, "older")))
				for p := range 32 {
					block, page := 2*half+p/16, p%16
					b := []byte{}
					if p < 5 {
						b = whole[p*256 : min(len(whole), p*256+256)]
					}
					hit := p == at || p > at && len(how) > 5
					switch {
					case hit && how[0] == 'b':
					case hit && how[0] == 't':
						tears(t, f, block, page)
					case hit:
						lays(t, f, block, page, other)
					default:
						lays(t, f, block, page, text(b, make([]byte, 256-len(b))))
					}
				}
				if at < 5 {
					holds(t, f, r, 1-half, 4, saved(1, 1, "older"))
				} else {
					holds(t, f, r, half, 6, five())
				}
			}
		}
	}
}

// P6.2: a whole checkpoint that does not begin at the half's first page is none, whatever stands ahead of it; nor one that goes on from the one half to the other, or beyond the region.
func TestPagesBehindTheFirst(t *testing.T) {
	r := api.Region{Blocks: 4}
	for name, ahead := range map[string]func(f *flash.Flash){
		"blank": func(f *flash.Flash) {},
		"torn":  func(f *flash.Flash) { tears(t, f, 0, 0) },
		"other": func(f *flash.Flash) { lays(t, f, 0, 0, []byte{0}) },
	} {
		f := made(t, 4)
		ahead(f)
		lays(t, f, 0, 1, written(6, five()))
		lays(t, f, 1, 0, written(7, five()))
		lays(t, f, 3, 0, written(8, five()))
		lacks(t, f, r, api.OK)
		saves(t, f, r, saved(1, 1, name))
		holds(t, f, r, 0, 1, saved(1, 1, name))
		if f.Wear(0) != 1 || f.Wear(1) != 1 || f.Wear(2) != 0 || f.Wear(3) != 0 {
			t.Error(name, f.Wear(0), f.Wear(1), f.Wear(2), f.Wear(3))
		}
	}
	wide := api.Saved{Slot: 8, Data: filled(2*blockBytes + 500)} // of three blocks
	for from := range 3 {
		f := made(t, 8)
		lays(t, f, from, 0, written(6, wide))
		lacks(t, f, api.Region{From: from, Blocks: 2}, api.OK)
		lacks(t, f, api.Region{From: from, Blocks: 4}, api.OK)
		holds(t, f, api.Region{From: from, Blocks: 6}, 0, 6, wide)
	}
	over := sized(t, 6, 1, 1, blockBytes+1) // of one byte more than a half of one block
	for from := range 3 {
		f := made(t, 4)
		lays(t, f, from, 0, written(6, over))
		if from > 0 {
			lacks(t, f, api.Region{From: from - 1, Blocks: 2}, api.OK)
		}
		lacks(t, f, api.Region{From: from, Blocks: 2}, api.OK)
	}
	f := made(t, 8)
	lays(t, f, 3, 0, written(6, wide))
	lacks(t, f, api.Region{Blocks: 4}, api.OK)
	lacks(t, f, api.Region{From: 1, Blocks: 4}, api.OK)
	holds(t, f, api.Region{Blocks: 6}, 1, 6, wide)
}
