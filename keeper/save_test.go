package keeper_test

import (
	"math"
	"testing"

	"trivet/api"
	"trivet/ckpt"
	"trivet/flash"
	"trivet/journal"
	"trivet/keeper"
)

// P9.5: of which slots a checkpoint is taken, and what is told behind it.
func TestCheckpoint(t *testing.T) {
	for _, x := range []struct {
		slot int64
		last int64
		want api.Errno
	}{
		{math.MinInt64, 0, api.ErrSlot},
		{-1, 0, api.ErrSlot},
		{0, 0, api.ErrSlot},
		{2, 0, api.ErrSlot},
		{3, 0, api.ErrSlot},
		{4, 2, api.OK},
		{5, 2, api.OK},
		{6, 4, api.OK},
		{7, 0, api.ErrSlot},
		{8, 0, api.ErrSlot},
		{9, 0, api.ErrSlot},
		{top, 0, api.ErrSlot},
		{math.MaxInt64, 0, api.ErrSlot},
	} {
		f, k, l := five(t)
		must(t, k.Vote(9, 2))
		if x.want != api.OK {
			refuses(t, f, k, x.want, func() api.Errno { return k.Checkpoint(x.slot, []byte("new")) })
			continue
		}
		must(t, k.Checkpoint(x.slot, []byte("new")))
		holds(t, f, k, x.slot, l[x.slot-3:]...)
		s, has := k.State()
		same(t, savedText(s), savedText(api.Saved{Slot: x.slot, Last: x.last, Data: []byte("new")}))
		same(t, has, true)
		same(t, k.Upto(), 6)
		same(t, k.Last(), 6)
		same(t, k.Term(), 9)
		who, voted := k.Voted()
		same(t, who, 2)
		same(t, voted, true)
		term, is := k.TermAt(x.slot - 1)
		same(t, term, x.last)
		same(t, is, true)
		refuses(t, f, k, api.ErrSlot, func() api.Errno { return k.Checkpoint(x.slot, nil) })
	}
}

// P9.5: which checkpoints of others are taken, and what stays of the log.
func TestInstall(t *testing.T) {
	for _, x := range []struct {
		slot, last int64
		stay       int // of the log's last entries
		want       api.Errno
	}{
		{math.MinInt64, 4, 0, api.ErrSlot},
		{-1, 4, 0, api.ErrSlot},
		{3, 1, 0, api.ErrSlot},
		{5, 2, 0, api.ErrSlot},
		{6, 4, 0, api.ErrSlot},
		{6, -1, 0, api.ErrSlot}, // ahead of ErrArg
		{top + 1, 4, 0, api.ErrSlot},
		{top + 1, -1, 0, api.ErrSlot},
		{math.MaxInt64, 4, 0, api.ErrSlot},
		{7, -1, 0, api.ErrArg},
		{7, math.MinInt64, 0, api.ErrArg},
		{7, top + 1, 0, api.ErrArg},
		{7, math.MaxInt64, 0, api.ErrArg},
		{7, 4, 1, api.OK},
		{7, 0, 0, api.OK},
		{7, 3, 0, api.OK},
		{7, 5, 0, api.OK},
		{7, 6, 0, api.OK}, // the term of what stands at 7, not at 6
		{7, top, 0, api.OK},
		{8, 6, 0, api.OK},
		{8, 4, 0, api.OK},
		{9, 6, 0, api.OK},
		{9, 0, 0, api.OK}, // behind the log no term is known: 0 is none either
		{300, 9, 0, api.OK},
		{top, 9, 0, api.OK},
		{top, top, 0, api.OK},
	} {
		f, k, l := five(t)
		must(t, k.Vote(9, 2))
		s := api.Saved{Slot: x.slot, Last: x.last, Data: []byte("other")}
		if x.want != api.OK {
			refuses(t, f, k, x.want, func() api.Errno { return k.Install(s) })
			continue
		}
		must(t, k.Install(s))
		holds(t, f, k, x.slot, l[5-x.stay:]...)
		got, has := k.State()
		same(t, savedText(got), savedText(s))
		same(t, has, true)
		same(t, k.Upto(), x.slot)
		same(t, k.Term(), 9)
		if x.stay == 0 {
			same(t, k.Last(), x.last)
		} else {
			same(t, k.Last(), 6)
		}
		who, voted := k.Voted()
		same(t, who, 2)
		same(t, voted, true)
		refuses(t, f, k, api.ErrSlot, func() api.Errno { return k.Install(s) })
		if x.slot < top {
			must(t, k.Append(k.Length(), batch(9, 1)))
			again(t, f, k)
		}
	}
}

// P9.5: what stays of an Install, and a log of which all stays but its first one; of an empty log; without a checkpoint ahead.
func TestInstallStays(t *testing.T) {
	f, k := fresh(t, 8)
	l := []api.Termed{batch(0, 1), batch(0, 2), none(3), batch(3, 4)}
	must(t, k.Append(0, l...))
	must(t, k.Install(api.Saved{Slot: 1, Last: 0}))
	holds(t, f, k, 1, l[1:]...)
	same(t, k.Upto(), 1)
	must(t, k.Install(api.Saved{Slot: 3, Last: 3}))
	holds(t, f, k, 3, l[3:]...)
	must(t, k.Install(api.Saved{Slot: 4, Last: 3}))
	holds(t, f, k, 4)
	must(t, k.Install(api.Saved{Slot: 5, Last: 3})) // TermAt(4) is none, the log being empty
	holds(t, f, k, 5)
	f, k = fresh(t, 8)
	must(t, k.Install(api.Saved{Slot: 1, Last: 0}))
	holds(t, f, k, 1)
}

// P9.5: of the empty log that a checkpoint leaves the next one begins; by turns they lie in the two halves, each with its own base, and all else is trimmed.
func TestCheckpointsByTurns(t *testing.T) {
	f, k := fresh(t, 8)
	saves, ring := parts(f)
	for n := range int64(200) {
		must(t, k.Append(n, batch(n/3, n)))
		must(t, k.Commit(n+1))
		must(t, k.Checkpoint(n+1, filled(int(n)*40)))
		half, number, has := ckpt.Half(f, saves)
		if half != int(n)%2 || number != n+1 || !has {
			t.Fatal(half, number, has)
		}
		s, _, _ := ckpt.Load(f, saves)
		first, _ := numberOf(s.Data)
		same(t, first, 2*n+1)
		j, _ := journal.Open(f.Clone(), ring, first)
		same(t, j.Next(), first+1)
		same(t, k.Room(), j.Room()-1)
		holds(t, f, k, n+1)
		same(t, k.Last(), n/3)
	}
}

// P9.1, P9.3: the journal goes round and round, and what stays is always there.
func TestRoundAndRound(t *testing.T) {
	f, k := fresh(t, 8)
	want := map[int64]api.Termed{}
	for n := range int64(500) {
		x := batch(n/7, n)
		if n%5 == 0 {
			x = wide(t, n/7%200, 3)
		}
		must(t, k.Append(n, x))
		want[n] = x
		must(t, k.Vote(n, int(n)%5))
		if n >= 3 {
			must(t, k.Commit(n-2))
		}
		if k.Low() {
			must(t, k.Checkpoint(k.Upto(), filled(int(n))))
		}
		var l []api.Termed
		for slot := k.First(); slot <= n; slot++ {
			l = append(l, want[slot])
		}
		holds(t, f, k, k.First(), l...)
	}
}

// calls are those that write, each with what may be and with what may not.
func calls(k *keeper.Keeper) map[string]func() api.Errno {
	return map[string]func() api.Errno{
		"Vote":                  func() api.Errno { return k.Vote(90, 1) },
		"Vote, as it is":        func() api.Errno { return k.Vote(0, -1) },
		"Vote, wrong":           func() api.Errno { return k.Vote(-1, 9) },
		"Append":                func() api.Errno { return k.Append(8, none(6)) },
		"Append of none":        func() api.Errno { return k.Append(8) },
		"Append, wrong":         func() api.Errno { return k.Append(-1, none(-1)) },
		"Commit":                func() api.Errno { return k.Commit(7) },
		"Commit, wrong":         func() api.Errno { return k.Commit(-1) },
		"Checkpoint":            func() api.Errno { return k.Checkpoint(5, nil) },
		"Checkpoint, wrong":     func() api.Errno { return k.Checkpoint(-1, nil) },
		"Checkpoint, too great": func() api.Errno { return k.Checkpoint(5, make([]byte, 1<<20)) },
		"Install":               func() api.Errno { return k.Install(api.Saved{Slot: 20}) },
		"Install, wrong":        func() api.Errno { return k.Install(api.Saved{Slot: -1, Last: -1}) },
	}
}

// broken fails the test, unless all calls that write answer ErrBroken and do nothing, and what was kept is still told.
func broken(t *testing.T, f *flash.Flash, k *keeper.Keeper, want kept) {
	t.Helper()
	same(t, k.Broken(), true)
	for _, call := range calls(k) {
		refuses(t, f, k, api.ErrBroken, call)
	}
	if got := keptOf(t, k); got != want {
		t.Errorf("broken: %+v, not %+v", got, want)
	}
}

// A keeper that is broken: the flash's error is the answer, ErrBroken from then on, also when the flash has its power again; opened anew it is whole.
func TestBroken(t *testing.T) {
	for name := range calls(nil) {
		f, k, _ := five(t)
		was := keptOf(t, k)
		same(t, k.Broken(), false)
		same(t, f.Crash(), api.OK)
		switch name {
		case "Vote", "Append", "Checkpoint", "Install":
			same(t, calls(k)[name](), api.ErrDown)
		default: // what asks nothing of the flash
			calls(k)[name]()
			same(t, k.Broken(), false)
			same(t, k.Vote(99, 1), api.ErrDown)
		}
		broken(t, f, k, was)
		same(t, k.Room(), 0)
		same(t, k.Low(), true)
		same(t, f.Restart(), api.OK)
		broken(t, f, k, was)
		w := opened(t, f)
		if got := keptOf(t, w); got != was {
			t.Errorf("%s: %+v, not %+v", name, got, was)
		}
		must(t, w.Vote(90, 1))
	}
}

// A page that is not blank is an error of the flash, too.
func TestBrokenByAnother(t *testing.T) {
	f, k, _ := five(t)
	was := keptOf(t, k)
	used := f.Used(6)
	must(t, f.Program(6, used, []byte("another's")))
	same(t, k.Vote(90, 1), api.ErrUsed)
	broken(t, f, k, was)
}

// A checkpoint's error breaks it as the journal's does, while the journal still has its room.
func TestBrokenByTheCheckpoint(t *testing.T) {
	f, k, _ := five(t)
	was, room := keptOf(t, k), k.Room()
	same(t, f.SetFuse(6, 0), api.OK) // a base, three entries, a block erased among them; the checkpoint's first page
	same(t, k.Checkpoint(5, nil), api.ErrDown)
	broken(t, f, k, was)
	same(t, k.Room(), room-4)
}

// Errors that do not break it: numbers that run out. A call that is refused has changed nothing.
func TestNumbersRunOut(t *testing.T) {
	at := func(number int64) (*flash.Flash, *keeper.Keeper) {
		data := append(numbers(number), blob(nil)...)
		f := laid(t, api.Saved{Slot: 7, Last: 4, Data: data}, min(number, top-3))
		k := opened(t, f)
		return f, k
	}
	f, k := at(top)
	refuses(t, f, k, api.ErrLong, func() api.Errno { return k.Vote(1, 1) })
	refuses(t, f, k, api.ErrLong, func() api.Errno { return k.Append(7, none(1)) })
	refuses(t, f, k, api.ErrLong, func() api.Errno { return k.Install(api.Saved{Slot: 9}) })
	still(t, f, k, func() api.Errno { return k.Vote(0, -1) })
	f, k = at(top - 3)
	refuses(t, f, k, api.ErrLong, func() api.Errno { return k.Append(7, none(1), none(1), none(1), none(1)) })
	must(t, k.Append(7, none(1), none(1)))
	must(t, k.Commit(9))
	refuses(t, f, k, api.ErrLong, func() api.Errno { return k.Checkpoint(8, nil) }) // a base, and an entry
	refuses(t, f, k, api.ErrLong, func() api.Errno { return k.Append(9, none(1), none(1)) })
	must(t, k.Checkpoint(9, nil)) // a base alone
	holds(t, f, k, 9)
	refuses(t, f, k, api.ErrLong, func() api.Errno { return k.Vote(1, 1) })
	f, k = at(top - 1)
	must(t, k.Vote(1, 1))
	refuses(t, f, k, api.ErrLong, func() api.Errno { return k.Append(7, none(1)) })
	again(t, f, k)
}

// The numbers of checkpoints run out likewise.
func TestCheckpointsRunOut(t *testing.T) {
	f := made(t, 8)
	b, e := ckpt.Encode(top-1, api.Saved{Slot: 7, Last: 4, Data: []byte{0, 0}})
	must(t, e)
	must(t, f.Program(0, 0, b))
	k := opened(t, f)
	must(t, k.Append(7, none(4), none(4)))
	must(t, k.Commit(9))
	must(t, k.Checkpoint(8, nil))
	refuses(t, f, k, api.ErrFull, func() api.Errno { return k.Checkpoint(9, nil) })
	refuses(t, f, k, api.ErrFull, func() api.Errno { return k.Install(api.Saved{Slot: 20}) })
	must(t, k.Vote(3, 1))
	holds(t, f, k, 8, none(4))
}

// The numbers of the journal's pages run out: ErrArg, which does not break it.
func TestPagesRunOut(t *testing.T) {
	f := made(t, 8)
	b, e := journal.Page(api.Leaf{Page: top, Many: 1, Data: numbers(1, 5, 1)})
	must(t, e)
	must(t, f.Program(4, 0, b)) // MaxTime is the place 0 of a ring of 4 blocks
	k := opened(t, f)
	was := keptOf(t, k)
	same(t, k.Term(), 5)
	same(t, k.Vote(6, 1), api.ErrArg)
	same(t, k.Broken(), false)
	same(t, keptOf(t, k), was)
}
