package ckpt_test

import (
	"bytes"
	"fmt"
	"math/rand"
	"slices"
	"testing"

	"trivet/api"
	"trivet/ckpt"
	"trivet/flash"
)

// reads is the checkpoint with which bytes begin: numbers are taken by hand, and all of it is held against how it is written.
func reads(b []byte) (number int64, s api.Saved, ok bool) {
	defer func() {
		if recover() != nil {
			number, s, ok = 0, api.Saved{}, false
		}
	}()
	at := 0
	take := func() (n int64) {
		k := int(b[at]) / 2
		for i := range k {
			n += int64(b[at+1+i]) << (8 * i)
		}
		at += 1 + k
		return n
	}
	take()
	number, s.Slot, s.Last = take(), take(), take()
	size := int(take())
	s.Data = slices.Clone(b[at : at+size])
	right := number >= 1 && number <= 1<<40 && s.Slot >= 0 && s.Slot <= 1<<40 && s.Last >= 0 && s.Last <= 1<<40 && size <= 1<<19
	return number, s, right && bytes.HasPrefix(b, written(number, s))
}

// find is P6.2: the newest one, by the chapter's words once more.
func find(f *flash.Flash, r api.Region) (half int, number int64, s api.Saved) {
	for h := range 2 {
		var b []byte
		for p := range r.Blocks / 2 * 16 {
			x, e := f.Read(r.From+h*r.Blocks/2+p/16, p%16)
			if e != api.OK {
				break
			}
			b = append(b, x...)
		}
		if n, x, ok := reads(b); ok && n > number {
			half, number, s = h, n, x
		}
	}
	return half, number, s
}

// put is P6.3, of a region that may be.
func put(f *flash.Flash, r api.Region, s api.Saved) api.Errno {
	half, number, _ := find(f, r)
	b := written(number+1, s)
	switch {
	case s.Slot < 0 || s.Slot > 1<<40 || s.Last < 0 || s.Last > 1<<40:
		return api.ErrArg
	case len(s.Data) > 1<<19:
		return api.ErrLong
	case f.Down():
		return api.ErrDown
	case number == 1<<40:
		return api.ErrFull
	case len(b) > r.Blocks/2*4096:
		return api.ErrLong
	}
	from := r.From
	if number > 0 && half == 0 {
		from += r.Blocks / 2
	}
	for n := range r.Blocks / 2 {
		if f.Used(from+n) > 0 {
			if e := f.Erase(from + n); e != api.OK {
				return e
			}
		}
	}
	for p := 0; p*256 < len(b); p++ {
		if e := f.Program(from+p/16, p%16, b[p*256:min(len(b), p*256+256)]); e != api.OK {
			return e
		}
	}
	return api.OK
}

// agrees holds what Load and Half answer against the model.
func agrees(t *testing.T, f *flash.Flash, r api.Region) int64 {
	t.Helper()
	if f.Down() {
		lacks(t, f, r, api.ErrDown)
		return 0
	}
	half, number, s := find(f, r)
	if number == 0 {
		lacks(t, f, r, api.OK)
	} else {
		holds(t, f, r, half, number, s)
	}
	return number
}

// drawn is a checkpoint, which may be more often than not.
func drawn(draw *rand.Rand, blocks int) api.Saved {
	pick := func() int64 { return []int64{0, 1, 300, top, draw.Int63n(top), draw.Int63n(300)}[draw.Intn(6)] }
	s := api.Saved{Slot: pick(), Last: pick()}
	switch draw.Intn(40) {
	case 0:
		s.Slot = []int64{-1, top + 1}[draw.Intn(2)]
	case 1:
		s.Last = []int64{-1, top + 1}[draw.Intn(2)]
	}
	half := blocks / 2 * blockBytes
	s.Data = filled([]int{0, 1, draw.Intn(300), draw.Intn(half), draw.Intn(half), half - 64 + draw.Intn(64), half - 20}[draw.Intn(7)])
	draw.Read(s.Data[:min(9, len(s.Data))])
	if draw.Intn(200) == 0 {
		s.Data = make([]byte, api.MaxState+draw.Intn(2))
	}
	return s
}

// scrawl lets somebody else do something to both flashes, in or beside the region.
func scrawl(draw *rand.Rand, r api.Region, l ...*flash.Flash) {
	block, page := draw.Intn(l[0].Blocks()), draw.Intn(16)*draw.Intn(2)
	if draw.Intn(2) == 0 {
		block = r.From + draw.Intn(2)*r.Blocks/2 // a half's beginning
	}
	what, bit, at := draw.Intn(5), byte(1<<draw.Intn(8)), draw.Intn(256)
	b := written([]int64{1, draw.Int63n(40), top - 1, top, top + 1}[draw.Intn(5)*draw.Intn(2)], saved(draw.Int63n(9), 1, "other"))
	for _, f := range l {
		switch what {
		case 0:
			f.Spoil(block, page, at, bit)
		case 1:
			f.SetFuse(1, 1)
			f.Program(block, page, nil)
			f.Crash() // of a page that was not blank the fuse is still there
			f.Restart()
		case 2:
			f.Erase(block)
		default:
			f.Erase(block)
			f.Program(block, page, b)
		}
	}
}

// P6.2 to P6.6, R6: drawn calls, with the power going, with pages that are spoilt, torn, or somebody else's, held against the model.
func TestAgainstTheModel(t *testing.T) {
	seen := map[api.Errno]int{}
	most := int64(0)
	for seed := range int64(150) {
		draw := rand.New(rand.NewSource(seed))
		r := api.Region{From: draw.Intn(3), Blocks: 2 + 2*draw.Intn(3)}
		f := made(t, r.From+r.Blocks+draw.Intn(2))
		m := f.Clone()
		for range 80 {
			switch draw.Intn(10) {
			case 0:
				count, keep := 1+draw.Intn(30), draw.Intn(9)-4
				if got, want := f.SetFuse(count, keep), m.SetFuse(count, keep); got != want {
					t.Fatal(got, want)
				}
			case 1, 2:
				f.Restart()
				m.Restart()
			case 3:
				if draw.Intn(4) == 0 {
					scrawl(draw, r, f, m)
				}
			default:
				s := drawn(draw, r.Blocks)
				got, want := ckpt.Save(f, r, s), put(m, r, s)
				if got != want {
					t.Fatal("seed", seed, fmt.Sprint(r, s.Slot, s.Last, len(s.Data)), "answers", got, "not", want)
				}
				seen[got]++
			}
			most = max(most, agrees(t, f, r))
			if !flash.Same(f, m) {
				t.Fatal("seed", seed, "the flashes are not the same")
			}
		}
	}
	for _, e := range []api.Errno{api.OK, api.ErrArg, api.ErrLong, api.ErrDown, api.ErrFull} {
		if seen[e] < 20 {
			t.Error("only", seen[e], "times", e)
		}
	}
	if most != top {
		t.Error("the greatest number was", most)
	}
}

// P6.2, R6: checkpoints of any numbers in both halves, with a page of any of them spoilt, torn or lacking: the same as the model, each time.
func TestLoadAgainstTheModel(t *testing.T) {
	none, both := 0, 0
	for seed := range int64(600) {
		draw := rand.New(rand.NewSource(seed))
		r := api.Region{From: draw.Intn(2), Blocks: 2 + 2*draw.Intn(2)}
		f := made(t, r.From+r.Blocks)
		for half := range 2 {
			block := r.From + half*r.Blocks/2
			b := written(1+draw.Int63n(3), api.Saved{Slot: int64(half), Last: draw.Int63n(9), Data: filled(draw.Intn(3500))})
			bad := draw.Intn(2 * (1 + len(b)/256))
			for p := 0; p*256 < len(b); p++ {
				part := b[p*256 : min(len(b), p*256+256)]
				switch how := draw.Intn(3); {
				case p == bad && how == 0:
				case p == bad && how == 1:
					tears(t, f, block, p)
				default:
					lays(t, f, block, p, part)
					if p == bad {
						same(t, f.Spoil(block, p, draw.Intn(len(part)), byte(1+draw.Intn(255))), api.OK)
					}
				}
			}
		}
		was := f.Clone()
		for range 3 {
			switch agrees(t, f, r) {
			case 0:
				none++
			case 3:
				both++
			}
		}
		if !flash.Same(f, was) {
			t.Fatal("seed", seed, "looking has changed the flash")
		}
	}
	if none < 100 || both < 100 {
		t.Error(none, both)
	}
}
