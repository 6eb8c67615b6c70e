package keeper_test

import (
	"bytes"
	"math"
	"runtime"
	"slices"
	"testing"

	"trivet/api"
	"trivet/flash"
	"trivet/keeper"
)

// full is an entry of which all lists have something, and room behind it.
func full(term int64) api.Termed {
	x := api.Txn{Session: 3, Request: 4, Code: make([]byte, 3, 9), Args: make([]int64, 2, 9), Reads: make([]api.Key, 1, 9), Writes: make([]api.Key, 1, 9)}
	return api.Termed{Term: term, Entry: api.Entry{Kind: api.EnBatch, From: 1, Number: 6, Txns: append(make([]api.Txn, 0, 9), x)}}
}

// scribble writes over all that an entry has, with all the room of its lists.
func scribble(x api.Termed) {
	for i := range x.Entry.Txns {
		t := &x.Entry.Txns[i]
		for i, b := 0, t.Code[:cap(t.Code)]; i < len(b); i++ {
			b[i] = 77
		}
		for i, l := 0, t.Args[:cap(t.Args)]; i < len(l); i++ {
			l[i] = 77
		}
		for i, l := 0, t.Reads[:cap(t.Reads)]; i < len(l); i++ {
			l[i].Row = 77
		}
		for i, l := 0, t.Writes[:cap(t.Writes)]; i < len(l); i++ {
			l[i].Row = 77
		}
	}
	for i, l := 0, x.Entry.Txns[:cap(x.Entry.Txns)]; i < len(l); i++ {
		l[i].Session = 77
	}
}

// R3: what Append is handed is not written to, and what its owner does to it afterwards is not seen: not in the log, not on the flash.
func TestAppendedIsCopied(t *testing.T) {
	f, k := fresh(t, 8)
	l := append(make([]api.Termed, 0, 9), full(1), none(2), full(2))
	must(t, k.Append(0, l...))
	same(t, texts(l...), texts(full(1), none(2), full(2)))
	for _, x := range l[:9] {
		same(t, x.Term, max(0, min(2, x.Term)))
		scribble(x)
	}
	for i := range l {
		l[i].Term = 77
	}
	holds(t, f, k, 0, full(1), none(2), full(2))
	must(t, k.Commit(3))
	must(t, k.Checkpoint(2, nil)) // which writes what stays once more
	holds(t, f, k, 2, full(2))
}

// R3: what At and All answer is nobody else's.
func TestToldIsNobodyElses(t *testing.T) {
	f, k := fresh(t, 8)
	l := []api.Termed{full(1), full(1), full(3)}
	must(t, k.Append(0, l...))
	for slot := range int64(3) {
		a, _ := k.At(slot)
		b, _ := k.At(slot)
		scribble(a)
		same(t, texts(b), texts(l[slot]))
	}
	seq := k.All(0)
	for range 2 {
		slot := 0
		for _, x := range seq {
			same(t, texts(x), texts(l[slot]))
			scribble(x)
			slot++
		}
	}
	holds(t, f, k, 0, l...)
	must(t, k.Commit(3))
	must(t, k.Checkpoint(1, nil))
	holds(t, f, k, 1, l[1:]...)
}

// R3: what All answered tells what was there when it was asked for, whatever is done behind that, also while it is gone through.
func TestAllAsItWas(t *testing.T) {
	for name, do := range map[string]func(k *keeper.Keeper) api.Errno{
		"put behind":  func(k *keeper.Keeper) api.Errno { return k.Append(8, none(9)) },
		"put instead": func(k *keeper.Keeper) api.Errno { return k.Append(6, none(9), none(9), none(9)) },
		"cut":         func(k *keeper.Keeper) api.Errno { return k.Append(6, none(9)) },
		"checkpoint":  func(k *keeper.Keeper) api.Errno { return k.Checkpoint(5, nil) },
		"install":     func(k *keeper.Keeper) api.Errno { return k.Install(api.Saved{Slot: 20}) },
		"stays":       func(k *keeper.Keeper) api.Errno { return k.Install(api.Saved{Slot: 7, Last: 4}) },
	} {
		for _, meanwhile := range []bool{false, true} {
			_, k, l := five(t)
			seq := k.All(4)
			if !meanwhile {
				must(t, do(k))
			}
			for round := range 2 {
				var got []api.Termed
				for slot, x := range seq {
					if meanwhile && round == 0 && slot == 4 {
						must(t, do(k))
					}
					same(t, slot, int64(4+len(got)))
					got = append(got, x)
				}
				if texts(got...) != texts(l[1:]...) {
					t.Error(name, meanwhile, got)
				}
			}
		}
	}
}

// R3: a checkpoint's data are copied, in and out.
func TestDataIsNobodyElses(t *testing.T) {
	for _, install := range []bool{false, true} {
		f, k, _ := five(t)
		data := append(make([]byte, 0, 600), filled(500)...)
		want := savedText(api.Saved{Slot: 6, Last: 4, Data: filled(500)})
		if install {
			want = savedText(api.Saved{Slot: 8, Last: 6, Data: filled(500)})
			must(t, k.Install(api.Saved{Slot: 8, Last: 6, Data: data}))
		} else {
			must(t, k.Checkpoint(6, data))
		}
		if all := data[:600]; !bytes.Equal(all, append(filled(500), make([]byte, 100)...)) {
			t.Error("written to:", all)
		}
		clear(data[:600])
		for range 2 {
			s, _ := k.State()
			same(t, savedText(s), want)
			clear(s.Data[:cap(s.Data)])
		}
		again(t, f, k)
		s, _ := opened(t, f).State()
		same(t, savedText(s), want)
	}
}

// R4: nil lists and empty ones are the same.
func TestNilIsEmpty(t *testing.T) {
	run := func(empty []byte, l []api.Termed) *flash.Flash {
		f, k := fresh(t, 8)
		must(t, k.Append(0, l...))
		x := batch(1, 1)
		x.Entry.Txns[0].Code = empty
		must(t, k.Append(0, x))
		must(t, k.Commit(1))
		must(t, k.Checkpoint(1, empty))
		must(t, k.Install(api.Saved{Slot: 5, Data: empty}))
		s, has := k.State()
		same(t, has && len(s.Data) == 0, true)
		return f
	}
	if !flash.Same(run(nil, nil), run([]byte{}, []api.Termed{})) {
		t.Error("not the same")
	}
}

// R1, R2, R5: a keeper that no call made, nil or a zero struct, answers ErrMade, or nothing, whatever it is asked, and does nothing.
func TestOneThatNoCallMade(t *testing.T) {
	var nobody *keeper.Keeper
	for _, k := range []*keeper.Keeper{nobody, {}} {
		for range 2 {
			for name, call := range calls(k) {
				if e := call(); e != api.ErrMade {
					t.Error(name, "answers", e)
				}
			}
			for _, slot := range []int64{math.MinInt64, -1, 0, 1, 5, top, math.MaxInt64} {
				same(t, k.Vote(slot, int(slot)), api.ErrMade)
				same(t, k.Append(slot, none(slot)), api.ErrMade)
				same(t, k.Append(slot), api.ErrMade)
				same(t, k.Commit(slot), api.ErrMade)
				same(t, k.Checkpoint(slot, nil), api.ErrMade)
				same(t, k.Install(api.Saved{Slot: slot, Last: slot}), api.ErrMade)
				x, has := k.At(slot)
				term, is := k.TermAt(slot)
				same(t, has || is, false)
				same(t, texts(x), texts(none(0)))
				same(t, term, 0)
				for range k.All(slot) {
					t.Error("All tells something")
				}
			}
			if got, want := look(t, k), (seen{kept: kept{saved: "0 0 "}}); got != want {
				t.Errorf("%+v", got)
			}
		}
	}
}

// R1: whatever numbers a keeper is given, it answers, and is the same one then as opened again.
func TestAnyNumbers(t *testing.T) {
	l := []int64{math.MinInt64, math.MinInt64 + 1, -top, -2, -1, 0, 1, 2, 3, 4, 5, 6, 8, 9, 255, 256, top - 1, top, top + 1, math.MaxInt64 - 1, math.MaxInt64}
	for _, a := range l {
		for _, b := range l {
			f, k, _ := five(t)
			k.At(a)
			k.TermAt(a)
			k.All(a)
			k.Vote(a, int(b))
			k.Commit(b)
			k.Append(a, none(b), none(a), full(b))
			k.Append(b, api.Termed{Term: a, Entry: api.Entry{Kind: int(a), From: int(b), Number: b}})
			k.Checkpoint(a, nil)
			k.Install(api.Saved{Slot: a, Last: b})
			k.Append(k.Length(), none(b), full(a))
			same(t, k.Broken(), false)
			again(t, f, k)
		}
	}
}

// R6: the same calls answer the same.
func TestTheSameAgain(t *testing.T) {
	run := func() (*flash.Flash, seen) {
		f, k := fresh(t, 9)
		for n := range int64(60) {
			k.Append(k.Length()-n%3, batch(n/9, n), none(n/7))
			k.Vote(n/2, int(n)%5)
			k.Commit(k.Length() - 4)
			if n%9 == 8 {
				k.Checkpoint(k.Upto(), filled(int(n)*9))
			}
		}
		return f, look(t, k)
	}
	f, s := run()
	for range 3 {
		g, x := run()
		if !flash.Same(f, g) || s != x {
			t.Fatal("not the same")
		}
	}
}

// spent is how many bytes of memory are asked for meanwhile.
func spent(do func()) uint64 {
	var a, b runtime.MemStats
	runtime.ReadMemStats(&a)
	do()
	runtime.ReadMemStats(&b)
	return b.TotalAlloc - a.TotalAlloc
}

// linear fails the test, if eight times as much takes far more than eight times the memory.
func linear(t *testing.T, name string, of func(n int) func()) {
	t.Helper()
	small, great := spent(of(1)), spent(of(8))
	if great > 16*small+1<<16 {
		t.Error(name, "takes", small, "and of eight times as much", great)
	}
}

// THE BOUND: each call takes as much as it is handed, or holds, or answers.
func TestBound(t *testing.T) {
	entries := func(n int) []api.Termed {
		return slices.Repeat([]api.Termed{full(1), wide(t, 1, 2)}, 50*n)
	}
	grown := func(n int) (*flash.Flash, *keeper.Keeper) {
		f, k := fresh(t, 120*n)
		must(t, k.Append(0, entries(n)...))
		must(t, k.Commit(1))
		return f, k
	}
	linear(t, "Append", func(n int) func() {
		_, k := fresh(t, 960)
		l := entries(n)
		return func() { must(t, k.Append(0, l...)) }
	})
	linear(t, "Append of what stands", func(n int) func() {
		_, k := grown(n)
		l := entries(n)
		return func() { must(t, k.Append(0, l...)) }
	})
	linear(t, "Open", func(n int) func() {
		f, _ := grown(n)
		return func() { opened(t, f) }
	})
	linear(t, "Checkpoint", func(n int) func() {
		_, k := grown(n)
		data := filled(50000 * n)
		return func() { must(t, k.Checkpoint(1, data)) }
	})
	linear(t, "All", func(n int) func() {
		_, k := grown(n)
		return func() {
			for range k.All(0) {
			}
		}
	})
	_, k := grown(8)
	l := entries(8)
	if n := spent(func() {
		k.Vote(-1, 0)
		k.Append(-1, l...)
		k.Commit(-1)
		k.Checkpoint(0, nil)
		k.Install(api.Saved{})
		k.Room()
		k.Low()
		k.Last()
		k.TermAt(5)
		k.At(0)
	}); n > 1<<13 {
		t.Error("what is little takes", n)
	}
}

// live is how much memory is still held.
func live() int64 {
	var m runtime.MemStats
	runtime.GC()
	runtime.GC()
	runtime.ReadMemStats(&m)
	return int64(m.HeapAlloc)
}

// What another entry has taken the place of, and what a checkpoint has let go of, is not held any more.
func TestWhatWentIsNotHeld(t *testing.T) {
	f, k := fresh(t, 1024)
	for range 40 {
		must(t, k.Append(k.Length(), long(t, 1, 8000)))
	}
	was := live()
	must(t, k.Append(1, none(2)))
	if fell := was - live(); fell < 39*8000*9/10 {
		t.Error("39 entries went, but only", fell, "bytes")
	}
	for range 39 {
		must(t, k.Append(k.Length(), long(t, 2, 8000)))
	}
	must(t, k.Commit(40))
	was = live()
	must(t, k.Checkpoint(40, nil))
	if fell := was - live(); fell < (2*39+40)*8000*9/10 { // of the journal, too: what went ahead of that is still there
		t.Error("a checkpoint was made, but only", fell, "bytes went")
	}
	same(t, k.Length(), 41)
	runtime.KeepAlive(f)
}
