package ckpt_test

import (
	"bytes"
	"runtime"
	"slices"
	"testing"

	"trivet/api"
	"trivet/ckpt"
	"trivet/flash"
)

// scribble writes over all of a list, with all its room.
func scribble(b []byte) {
	b = b[:cap(b)]
	for i := range b {
		b[i] = 77
	}
}

// roomy is b with room behind it that is not to be written to.
func roomy(b []byte) []byte {
	return append(make([]byte, 0, len(b)+300), b...)
}

// untouched fails the test, unless roomy bytes are what they were.
func untouched(t *testing.T, b, want []byte) {
	t.Helper()
	if all := b[:cap(b)]; !bytes.Equal(all, append(slices.Clone(want), make([]byte, cap(b)-len(want))...)) {
		t.Error("written to:", all)
	}
}

// R3: what Save is handed is not written to, and what its owner does to it afterwards is not seen on the flash.
func TestSavedIsCopied(t *testing.T) {
	for _, size := range []int{0, 1, 200, 256, 1000} {
		f, r := made(t, 2), api.Region{Blocks: 2}
		b := roomy(filled(size))
		saves(t, f, r, api.Saved{Slot: 5, Last: 2, Data: b})
		untouched(t, b, filled(size))
		scribble(b)
		holds(t, f, r, 0, 1, api.Saved{Slot: 5, Last: 2, Data: filled(size)})
	}
}

// R3: what Load answers is nobody else's: not the flash's, not another answer's.
func TestLoadedIsNobodyElses(t *testing.T) {
	f, r := made(t, 4), api.Region{Blocks: 4}
	want := api.Saved{Slot: 5, Last: 2, Data: filled(1000)}
	saves(t, f, r, saved(1, 1, "older"), want)
	a, _, _ := ckpt.Load(f, r)
	b, _, _ := ckpt.Load(f, r)
	scribble(a.Data)
	if !alike(b, want) {
		t.Error("two answers share their bytes")
	}
	holds(t, f, r, 1, 2, want)
	saves(t, f, r, saved(6, 2, "newer"), saved(7, 2, "newest"))
	if !alike(b, want) {
		t.Error("an answer has followed the flash")
	}
}

// R3: Encode's and Decode's bytes are apart from what they are made of.
func TestFormIsNobodyElses(t *testing.T) {
	data := roomy(filled(150))
	b, e := ckpt.Encode(3, api.Saved{Slot: 1, Data: data})
	same(t, e, api.OK)
	untouched(t, data, filled(150))
	keep := slices.Clone(b)
	scribble(data)
	if !bytes.Equal(b, keep) {
		t.Error("the bytes have followed the checkpoint")
	}
	again, _ := ckpt.Encode(3, api.Saved{Slot: 1, Data: filled(150)})
	scribble(b)
	if !bytes.Equal(again, keep) {
		t.Error("two answers share their bytes")
	}
	b = roomy(keep)
	_, s, e := ckpt.Decode(b)
	same(t, e, api.OK)
	untouched(t, b, keep)
	scribble(b)
	if !bytes.Equal(s.Data, filled(150)) {
		t.Error("the checkpoint has followed the bytes")
	}
	b = roomy(keep)
	_, s, _ = ckpt.Decode(b)
	scribble(s.Data)
	untouched(t, b, keep)
}

// P6.2, R3: Load and Half change nothing, not even a fuse; nor do they ask for a change.
func TestLookingChangesNothing(t *testing.T) {
	for name, make := range scenes(t) {
		s := make()
		same(t, s.f.SetFuse(1, 1), api.OK)
		was := s.f.Clone()
		for range 3 {
			s.answers(t)
		}
		if !flash.Same(s.f, was) {
			t.Error(name, "is another one")
		}
	}
}

// P6.6: two regions of one flash do not see each other.
func TestRegionsApart(t *testing.T) {
	f := made(t, 6)
	a, b := api.Region{Blocks: 2}, api.Region{From: 2, Blocks: 4}
	for n := range 30 {
		x, y := api.Saved{Slot: int64(n), Data: filled(n)}, api.Saved{Slot: 5, Last: int64(n), Data: filled(200 * n)}
		saves(t, f, a, x)
		if n%3 == 0 {
			saves(t, f, b, y)
			holds(t, f, b, n/3%2, int64(n)/3+1, y)
		}
		holds(t, f, a, n%2, int64(n)+1, x)
	}
}

// R4: a nil list and an empty one are the same data.
func TestNilIsEmpty(t *testing.T) {
	r := api.Region{Blocks: 2}
	f, g := made(t, 2), made(t, 2)
	saves(t, f, r, api.Saved{Slot: 1})
	saves(t, g, r, api.Saved{Slot: 1, Data: []byte{}})
	if !flash.Same(f, g) {
		t.Error("not the same")
	}
	a, _ := ckpt.Encode(1, api.Saved{})
	b, _ := ckpt.Encode(1, api.Saved{Data: []byte{}})
	if !bytes.Equal(a, b) || len(a) == 0 {
		t.Error(a, b)
	}
}

// R5: a flash that no call made, nil or a zero struct.
func TestFlashThatNoCallMade(t *testing.T) {
	var none *flash.Flash
	for _, f := range []*flash.Flash{none, {}} {
		for _, r := range []api.Region{{}, {Blocks: 2}, {From: -1, Blocks: 3}} {
			same(t, ckpt.Save(f, r, saved(1, 1, "x")), api.ErrMade)
			same(t, ckpt.Save(f, r, api.Saved{Slot: -1}), api.ErrMade)
			lacks(t, f, r, api.ErrMade)
		}
	}
}

// R6: the same calls answer the same.
func TestTheSameAgain(t *testing.T) {
	run := func() *flash.Flash {
		f := begun(t)
		for n := range 30 {
			saves(t, f, region, api.Saved{Slot: int64(n), Data: filled(n * 397 % 9000)})
		}
		return f
	}
	f := run()
	for range 3 {
		if !flash.Same(f, run()) {
			t.Fatal("not the same")
		}
	}
}

// spent is how many bytes of memory are asked for meanwhile.
func spent(do func()) uint64 {
	var a, b runtime.MemStats
	runtime.ReadMemStats(&a)
	do()
	runtime.ReadMemStats(&b)
	return b.TotalAlloc - a.TotalAlloc
}

// linear fails the test, if eight times as much takes far more than eight times the memory.
func linear(t *testing.T, name string, of func(n int) func()) {
	t.Helper()
	small, great := spent(of(1)), spent(of(8))
	if great > 16*small+1<<16 {
		t.Error(name, "takes", small, "and of eight times as much", great)
	}
}

// THE BOUND: each call takes as much as the region has pages, and as there is data; what is refused at a look takes nothing.
func TestBound(t *testing.T) {
	full := func(n int) (*flash.Flash, api.Region, api.Saved) {
		r := api.Region{Blocks: 30 * n}
		f := made(t, r.Blocks)
		s := api.Saved{Data: filled(ckpt.Most(r))}
		saves(t, f, r, s, s)
		return f, r, s
	}
	linear(t, "Save", func(n int) func() {
		f, r, s := full(n)
		return func() { saves(t, f, r, s) }
	})
	linear(t, "Load", func(n int) func() {
		f, r, _ := full(n)
		return func() { ckpt.Load(f, r) }
	})
	linear(t, "Half", func(n int) func() {
		f, r, _ := full(n)
		return func() { ckpt.Half(f, r) }
	})
	linear(t, "Encode and Decode", func(n int) func() {
		s := api.Saved{Data: filled(60000 * n)}
		return func() {
			b, _ := ckpt.Encode(1, s)
			ckpt.Decode(b)
		}
	})
	f, r, _ := full(8)
	long := api.Saved{Data: make([]byte, api.MaxState+1)}
	if n := spent(func() {
		ckpt.Save(f, r, long)
		ckpt.Save(f, api.Region{Blocks: 3}, long)
		ckpt.Encode(0, long)
		ckpt.Encode(1, long)
		ckpt.Most(r)
	}); n > 1<<12 {
		t.Error("what is refused takes", n)
	}
}
