package ckpt_test

import (
	"bytes"
	"testing"

	"trivet/api"
	"trivet/ckpt"
	"trivet/flash"
)

// block is what can be seen of a block: its wear, and its pages with the errors of reading them.
func block(f *flash.Flash, n int) []byte {
	g := f.Clone()
	if g.Down() {
		g.Restart()
	}
	b := []byte{byte(g.Wear(n))}
	for p := range api.PagesPerBlock {
		x, e := g.Read(n, p)
		b = append(append(b, byte(e)), x...)
	}
	return b
}

// apart fails the test, unless all blocks but those of one half are what they were.
func apart(t *testing.T, f, was *flash.Flash, r api.Region, half int) {
	t.Helper()
	from := r.From + half*r.Blocks/2
	for n := range f.Blocks() {
		if inside := n >= from && n < from+r.Blocks/2; !inside && !bytes.Equal(block(f, n), block(was, n)) {
			t.Error("the block", n, "is another one")
		}
	}
}

// scene is a flash with a region, in whose half there is a checkpoint of that number (0: in neither one).
type scene struct {
	f      *flash.Flash
	half   int
	number int64
	newest api.Saved
}

// region is that of all scenes; the blocks beside it are full of things that are not to be looked at.
var region = api.Region{From: 2, Blocks: 6}

func begun(t *testing.T) *flash.Flash {
	f := made(t, 10)
	for _, n := range []int{0, 1, 8, 9} {
		lays(t, f, n, 0, written(1000, saved(77, 77, "beside")))
		tears(t, f, n, 3)
		lays(t, f, n, 4, filled(12*256))
	}
	return f
}

// scenes are regions at all that a Save may find: nothing, one or two checkpoints, halves that were left in the middle of a Save, or written to by others.
func scenes(t *testing.T) map[string]func() scene {
	a, b := api.Saved{Slot: 5, Last: 1, Data: filled(9000)}, saved(9, 2, "y")
	after := func(half int, number int64, newest api.Saved, l ...api.Saved) func() scene {
		return func() scene {
			f := begun(t)
			saves(t, f, region, l...)
			return scene{f, half, number, newest}
		}
	}
	strewn := func(half int, number int64) func() scene {
		return func() scene {
			f := begun(t)
			first := region.From + 3*(1-half)
			lays(t, f, first, 5, filled(256))
			tears(t, f, first+2, 15)
			if number > 0 {
				lays(t, f, region.From+3*half, 0, written(number, b))
			}
			return scene{f, half, number, b}
		}
	}
	return map[string]func() scene{
		"nothing":              after(0, 0, api.Saved{}),
		"one, long":            after(0, 1, a, a),
		"two, long and short":  after(1, 2, b, a, b),
		"three":                after(0, 3, b, a, a, b),
		"three, long":          after(0, 3, a, a, a, a),
		"four":                 after(1, 4, a, b, b, b, a),
		"strewn, none":         strewn(1, 0), // the half 0 is written to then
		"strewn, one in 0":     strewn(0, 6),
		"strewn, one in 1":     strewn(1, 255),
		"strewn, a great one":  strewn(1, top-1),
		"the same number both": func() scene { s := strewn(0, 6)(); s.f.Erase(5); lays(t, s.f, 5, 0, written(6, a)); return s },
	}
}

// answers fails the test, unless Load and Half answer what the scene has.
func (s scene) answers(t *testing.T) {
	t.Helper()
	if s.number == 0 {
		lacks(t, s.f, region, api.OK)
	} else {
		holds(t, s.f, region, s.half, s.number, s.newest)
	}
}

// to is the half that the next Save writes to.
func (s scene) to() int {
	if s.number == 0 {
		return 0
	}
	return 1 - s.half
}

// after is the scene behind a Save.
func (s scene) after(x api.Saved) scene {
	return scene{s.f, s.to(), s.number + 1, x}
}

// plan is the changes of a Save as the chapter tells them, each to be done to a flash.
func (s scene) plan(x api.Saved) []func(f *flash.Flash) api.Errno {
	var l []func(f *flash.Flash) api.Errno
	from := region.From + 3*s.to()
	for n := from; n < from+3; n++ {
		if s.f.Used(n) > 0 {
			l = append(l, func(f *flash.Flash) api.Errno { return f.Erase(n) })
		}
	}
	b := written(s.number+1, x)
	for p := 0; p*256 < len(b); p++ {
		part := b[p*256 : min(len(b), p*256+256)]
		l = append(l, func(f *flash.Flash) api.Errno { return f.Program(from+p/16, p%16, part) })
	}
	return l
}

// P6.3, P6.6: a Save's changes are just those of the chapter, in that order; behind it Load and Half answer it; no block beside the half that it goes to is another one.
func TestSaveChanges(t *testing.T) {
	for name, make := range scenes(t) {
		for _, size := range []int{0, 1, 200, 256, 5000, 12000} {
			s, x := make(), api.Saved{Slot: 40, Last: 6, Data: filled(size)}
			s.answers(t)
			want := s.f.Clone()
			for _, change := range s.plan(x) {
				same(t, change(want), api.OK)
			}
			was := s.f.Clone()
			saves(t, s.f, region, x)
			if !flash.Same(s.f, want) {
				t.Error(name, size, "is not as it is to be")
			}
			s.after(x).answers(t)
			apart(t, s.f, was, region, s.to())
		}
	}
}

// P6.4, P6.6, G3: the power goes at each change within a Save, leaving nothing, something torn, or all of it: that is the answer; behind the restart there is what was there ahead of it, or at the very end what was to be saved; and Saves go on from that.
func TestPowerCuts(t *testing.T) {
	for name, make := range scenes(t) {
		for _, size := range []int{0, 256, 5000} {
			x := api.Saved{Slot: 40, Last: 6, Data: filled(size)}
			plan := make().plan(x)
			for change := 1; change <= len(plan); change++ {
				for _, keep := range []int{0, 1, 2, -1, -2, 7} {
					s := make()
					was, want := s.f.Clone(), s.f.Clone()
					same(t, s.f.SetFuse(change, keep), api.OK)
					same(t, want.SetFuse(change, keep), api.OK)
					same(t, ckpt.Save(s.f, region, x), api.ErrDown)
					for _, do := range plan[:change] {
						do(want)
					}
					if !flash.Same(s.f, want) {
						t.Fatal(name, size, "cut at", change, "keep", keep, "is not as it is to be")
					}
					lacks(t, s.f, region, api.ErrDown)
					same(t, s.f.Restart(), api.OK)
					apart(t, s.f, was, region, s.to())
					if done := (keep+9)%3 == 2; change == len(plan) && done {
						s = s.after(x)
					}
					s.answers(t)
					goesOn(t, s)
				}
			}
		}
	}
}

// goesOn does Saves behind a crash, the first one with another crash.
func goesOn(t *testing.T, s scene) {
	t.Helper()
	if s.number >= top-1 {
		return
	}
	x, y := api.Saved{Slot: 50, Last: 7, Data: filled(600)}, saved(60, 8, "z")
	same(t, s.f.SetFuse(2, 1), api.OK)
	same(t, ckpt.Save(s.f, region, x), api.ErrDown)
	same(t, s.f.Restart(), api.OK)
	s.answers(t)
	for _, x := range []api.Saved{x, y} {
		saves(t, s.f, region, x)
		s = s.after(x)
		s.answers(t)
	}
}

// P6.4: what is sure stays so through crashes at every change of Saves one behind the other, and of those that come again.
func TestCrashUponCrash(t *testing.T) {
	s := scene{f: begun(t)}
	x := api.Saved{Slot: 1, Last: 1, Data: filled(2000)}
	for n := range 400 {
		x.Slot++
		same(t, s.f.SetFuse(1+n*7%13, n), api.OK)
		e := ckpt.Save(s.f, region, x)
		if e == api.OK {
			same(t, s.f.Crash(), api.OK)
		} else {
			same(t, e, api.ErrDown)
		}
		same(t, s.f.Restart(), api.OK)
		if got, _, _ := ckpt.Load(s.f, region); e == api.OK || got.Slot == x.Slot {
			s = s.after(x)
		}
		s.answers(t)
	}
	if s.number < 20 || s.number > 380 {
		t.Error(s.number, "of 400 were saved")
	}
}

// P6.5: Saves one behind the other erase each block of the halves at most every second time, and none that is blank.
func TestTurns(t *testing.T) {
	f := begun(t)
	sizes := []int{9000, 10, 5000, 0, 12000, 3000, 1, 9000}
	var wear [10]int64
	for n := range 100 {
		x := api.Saved{Slot: int64(n), Last: 1, Data: filled(sizes[n*5/3%len(sizes)])}
		was := f.Clone()
		saves(t, f, region, x)
		holds(t, f, region, n%2, int64(n)+1, x)
		apart(t, f, was, region, n%2)
		for b := range f.Blocks() {
			wear[b] += min(1, int64(was.Used(b))*int64(f.Wear(b)-was.Wear(b)))
			if f.Wear(b) != wear[b] {
				t.Fatal("the Save", n, "has erased the block", b, "that was blank, or more than once")
			}
			if f.Wear(b) > int64(n+1)/2 {
				t.Fatal("behind the Save", n, "the block", b, "was erased", f.Wear(b), "times")
			}
		}
	}
	if f.Wear(2) != 49 || f.Wear(5) != 49 || f.Wear(3) == 0 || f.Wear(3) == 49 {
		t.Error(wear)
	}
}
