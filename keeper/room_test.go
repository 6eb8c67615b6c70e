package keeper_test

import (
	"testing"

	"trivet/api"
	"trivet/flash"
	"trivet/keeper"
)

// A flash of 8 blocks has a ring of 64 pages, and so a spare of 8, or of 4. With n entries of one page each, and v votes, the journal's Room is 64 - n - v, and the reserve 1 + n.

// filledUp is a keeper on 8 blocks with n entries that hold nothing, and behind them votes votes.
func filledUp(t testing.TB, n, votes int) (*flash.Flash, *keeper.Keeper) {
	t.Helper()
	f, k := fresh(t, 8)
	for range n {
		must(t, k.Append(k.Length(), none(1)))
	}
	for range votes {
		must(t, k.Vote(k.Term()+1, 2))
	}
	return f, k
}

// P9.4: Room and Low, page by page.
func TestRoomAndLow(t *testing.T) {
	_, k := fresh(t, 8)
	same(t, k.Room(), 47) // a ring without records has a block less
	same(t, k.Low(), false)
	for n := 1; n <= 29; n++ {
		must(t, k.Append(k.Length(), none(1)))
		same(t, k.Room(), 63-2*n)
		same(t, k.Low(), 63-2*n < 16)
	}
	for votes, room := range []int{15, 16} {
		_, k := filledUp(t, 23, 2-votes)
		same(t, k.Room(), room)
		same(t, k.Low(), room == 15)
	}
	for blocks, quarter := range map[int]int{9: 20, 10: 24, 11: 28, 12: 24, 34: 72} {
		_, k := fresh(t, blocks)
		for !k.Low() {
			if k.Room() < quarter {
				t.Fatal(blocks, "blocks: not low at", k.Room())
			}
			must(t, k.Vote(k.Term()+1, 0))
		}
		same(t, k.Room(), quarter-1)
	}
}

// P9.4: Room is not below 0, where pages were lost to crashes.
func TestRoomBelowNothing(t *testing.T) {
	f, k := filledUp(t, 29, 5)
	same(t, k.Room(), 0)
	must(t, k.Commit(9))
	for range 3 {
		same(t, f.SetFuse(1, 1), api.OK)
		same(t, k.Checkpoint(9, nil), api.ErrDown)
		same(t, f.Restart(), api.OK)
		k = opened(t, f)
		must(t, k.Commit(9))
		same(t, k.Room(), 0)
		same(t, k.Low(), true)
	}
	refuses(t, f, k, api.ErrFull, func() api.Errno { return k.Vote(90, 1) })
	refuses(t, f, k, api.ErrFull, func() api.Errno { return k.Append(29, none(1)) })
	must(t, k.Checkpoint(9, nil))
	same(t, k.Length(), 29)
	if k.Room() == 0 {
		t.Error("no room behind a checkpoint")
	}
}

// P9.2: a vote leaves the reserve, and no more.
func TestVoteFull(t *testing.T) {
	f, k := filledUp(t, 29, 4)
	same(t, k.Room(), 1)
	must(t, k.Vote(5, 1)) // the journal's Room less 1 is just the reserve
	same(t, k.Room(), 0)
	refuses(t, f, k, api.ErrFull, func() api.Errno { return k.Vote(6, 1) })
	refuses(t, f, k, api.ErrArg, func() api.Errno { return k.Vote(5, 2) })
	refuses(t, f, k, api.ErrArg, func() api.Errno { return k.Vote(6, 5) })
	still(t, f, k, func() api.Errno { return k.Vote(5, 1) })
	again(t, f, k)
}

// P9.3: just at the reserve and the spare, of entries that hold nothing, and of others.
func TestAppendFull(t *testing.T) {
	for _, x := range []struct {
		n, votes int
		l        []api.Termed
		want     api.Errno
	}{
		{26, 0, []api.Termed{batch(1, 1)}, api.OK}, // 63 to 26 and 26 and 2 and 8
		{26, 1, []api.Termed{batch(1, 1)}, api.OK},
		{26, 2, []api.Termed{batch(1, 1)}, api.ErrFull},
		{26, 2, []api.Termed{none(1)}, api.OK},
		{26, 5, []api.Termed{none(1)}, api.OK},
		{26, 6, []api.Termed{none(1)}, api.ErrFull},
		{27, 0, []api.Termed{batch(1, 1)}, api.ErrFull},
		{27, 0, []api.Termed{none(1)}, api.OK},
		{28, 0, []api.Termed{none(1)}, api.OK},
		{28, 1, []api.Termed{none(1)}, api.OK},
		{28, 2, []api.Termed{none(1)}, api.ErrFull},
		{29, 0, []api.Termed{none(1)}, api.ErrFull},
		{26, 3, []api.Termed{none(1), none(1)}, api.OK},
		{26, 4, []api.Termed{none(1), none(1)}, api.ErrFull},
		{25, 1, []api.Termed{none(1), batch(1, 1)}, api.OK}, // one of them is not EnNone
		{25, 2, []api.Termed{none(1), batch(1, 1)}, api.ErrFull},
		{25, 2, []api.Termed{batch(1, 1), none(1)}, api.ErrFull},
		{25, 5, []api.Termed{none(1), none(1)}, api.OK},
		{20, 5, []api.Termed{wide(t, 1, 5)}, api.OK}, // 58 to 20 and 20 and 10 and 8
		{20, 6, []api.Termed{wide(t, 1, 5)}, api.ErrFull},
		{20, 5, []api.Termed{wide(t, 1, 2), none(1), wide(t, 1, 2)}, api.OK},
		{20, 6, []api.Termed{wide(t, 1, 2), none(1), wide(t, 1, 2)}, api.ErrFull},
	} {
		f, k := filledUp(t, x.n, x.votes)
		call := func() api.Errno { return k.Append(k.Length(), x.l...) }
		if x.want != api.OK {
			refuses(t, f, k, x.want, call)
			continue
		}
		if e := call(); e != api.OK {
			t.Error(x.n, x.votes, len(x.l), "answers", e)
		}
		again(t, f, k)
	}
}

// P9.3: those that stand already take no pages, and do not count for the spare; those that go are no more in the reserve.
func TestAppendFullOfSome(t *testing.T) {
	f, k := fresh(t, 8)
	must(t, k.Append(0, batch(1, 0)))
	for range 26 {
		must(t, k.Append(k.Length(), none(1)))
	}
	refuses(t, f, k, api.ErrFull, func() api.Errno { return k.Append(27, batch(1, 1)) })
	all := []api.Termed{batch(1, 0)}
	for range 26 {
		all = append(all, none(1))
	}
	still(t, f, k, func() api.Errno { return k.Append(0, all...) })
	must(t, k.Append(0, append(all, none(1))...)) // a batch is among them, but not among those that are put
	same(t, k.Length(), 28)
	refuses(t, f, k, api.ErrFull, func() api.Errno { return k.Append(28, batch(1, 1)) })

	// Room 36: less 10 it is 26, the reserve with them being 1 + 7 + 10, and the spare 8
	must(t, k.Append(7, wide(t, 2, 10)))
	same(t, k.Length(), 8)
	again(t, f, k)
	f, k = filledUp(t, 28, 0)
	refuses(t, f, k, api.ErrFull, func() api.Errno { return k.Append(8, wide(t, 2, 10)) })
	must(t, k.Append(7, wide(t, 2, 10)))
}

// P9.2 to P9.4: how many pages the log's records have is reckoned as the journal does it: a record of 200 bytes has one, one of 201 two; the slot's and the term's bytes count.
func TestPages(t *testing.T) {
	for _, x := range []struct {
		slot, term int64
		form       int // how many bytes of it just fill a page
	}{
		{0, 0, 200 - 2 - 1 - 1 - 2},
		{0, 1, 200 - 2 - 1 - 2 - 2},
		{1, 0, 200 - 2 - 2 - 1 - 2},
		{255, 255, 200 - 2 - 2 - 2 - 2},
		{256, 255, 200 - 2 - 3 - 2 - 2},
		{256, 256, 200 - 2 - 3 - 3 - 2},
		{top - 1, top, 200 - 2 - 6 - 7 - 2},
	} {
		for more := range 2 {
			f, k := fresh(t, 8)
			if x.slot > 0 {
				must(t, k.Install(api.Saved{Slot: x.slot}))
			} else {
				must(t, k.Vote(1, 1)) // a first record
			}
			room := k.Room()
			must(t, k.Append(x.slot, long(t, x.term, x.form+more)))
			same(t, k.Room(), room-2*(1+more)) // of the journal and of the reserve
			again(t, f, k)
		}
	}
	_, k := fresh(t, 12)
	must(t, k.Vote(1, 1))
	for _, pages := range []int{2, 3, 7, 13} {
		room := k.Room()
		must(t, k.Append(k.Length(), wide(t, 1, pages)))
		same(t, k.Room(), room-2*pages)
	}
}

// P9.3: the spare is an eighth of the ring's pages, at most 64, and half of that for entries that hold nothing.
func TestSpare(t *testing.T) {
	for blocks, spare := range map[int]int{8: 8, 9: 10, 10: 12, 11: 14, 12: 12, 13: 14, 62: 64, 63: 64, 64: 64, 65: 64, 70: 64, 400: 64} {
		for half, x := range []api.Termed{batch(1, 1), none(1)} {
			want := spare / (1 + half)
			f, k := fresh(t, blocks)
			for k.Room() > 200 {
				must(t, k.Append(k.Length(), wide(t, 1, 30)))
			}
			must(t, k.Vote(1, 1))
			if k.Room()%2 != want%2 {
				must(t, k.Vote(2, 1))
			}
			for k.Room()-2 > want { // a page of the journal, and one of the reserve
				must(t, k.Append(k.Length(), x))
			}
			same(t, k.Room()-2, want)
			g := f.Clone()
			must(t, k.Append(k.Length(), x))
			refuses(t, f, k, api.ErrFull, func() api.Errno { return k.Append(k.Length(), x) })
			again(t, f, k)
			k = opened(t, g)
			must(t, k.Vote(3, 1)) // one less
			refuses(t, g, k, api.ErrFull, func() api.Errno { return k.Append(k.Length(), x) })
		}
	}
}

// P9.5: a checkpoint's data are refused above what a half holds for sure.
func TestCheckpointData(t *testing.T) {
	for _, x := range []struct{ blocks, most int }{
		{8, 2*4096 - 64 - 10 - 3}, // a half of two blocks
		{11, 2*4096 - 64 - 10 - 3},
		{12, 3*4096 - 64 - 10 - 3},
		{64, 16*4096 - 64 - 10 - 3}, // a length of two bytes just below 65,536
		{516, 129*4096 - 4096 - 10 - 4},
		{1024, 1<<19 - 10 - 4},
	} {
		for _, install := range []bool{false, true} {
			f, k := fresh(t, x.blocks)
			must(t, k.Append(0, none(1), none(2)))
			must(t, k.Commit(1))
			call := func(data []byte) api.Errno {
				if install {
					return k.Install(api.Saved{Slot: 2, Last: 2, Data: data})
				}
				return k.Checkpoint(1, data)
			}
			refuses(t, f, k, api.ErrFull, func() api.Errno { return call(filled(x.most + 1)) })
			refuses(t, f, k, api.ErrFull, func() api.Errno { return call(filled(x.most + 5000)) })
			must(t, call(filled(x.most)))
			again(t, f, k)
		}
	}
	f, k := fresh(t, 8)
	must(t, k.Append(0, none(1)))
	must(t, k.Commit(1))
	huge := filled(api.MaxState + 1)
	refuses(t, f, k, api.ErrFull, func() api.Errno { return k.Checkpoint(1, huge) })
	refuses(t, f, k, api.ErrSlot, func() api.Errno { return k.Checkpoint(2, huge) })
	refuses(t, f, k, api.ErrFull, func() api.Errno { return k.Install(api.Saved{Slot: 9, Data: huge}) })
	refuses(t, f, k, api.ErrArg, func() api.Errno { return k.Install(api.Saved{Slot: 9, Last: -1, Data: huge}) })
}

// tight is a keeper whose log of 29 slots needs more pages than the journal has: pages were lost to crashes. Its journal has a Room of 30 less so many.
func tight(t testing.TB, lost int) (*flash.Flash, *keeper.Keeper) {
	t.Helper()
	f, k := filledUp(t, 29, 5)
	for range lost {
		must(t, k.Commit(29))
		same(t, f.SetFuse(1, 1), api.OK)
		same(t, k.Checkpoint(29, nil), api.ErrDown)
		same(t, f.Restart(), api.OK)
		k = opened(t, f)
	}
	return f, k
}

// P9.5: a checkpoint needs a page, and those of what stays.
func TestCheckpointRoom(t *testing.T) {
	for lost := range 6 {
		for slot := int64(1); slot < 8; slot++ {
			fits := 1+29-int(slot) <= 30-lost
			f, k := tight(t, lost)
			must(t, k.Commit(20))
			if fits {
				must(t, k.Checkpoint(slot, []byte("x")))
				same(t, k.Length(), 29)
				again(t, f, k)
			} else {
				refuses(t, f, k, api.ErrFull, func() api.Errno { return k.Checkpoint(slot, []byte("x")) })
			}
			f, k = tight(t, lost)
			if fits {
				must(t, k.Install(api.Saved{Slot: slot, Last: 1}))
				same(t, k.Length(), 29)
				again(t, f, k)
			} else {
				refuses(t, f, k, api.ErrFull, func() api.Errno { return k.Install(api.Saved{Slot: slot, Last: 1}) })
				must(t, k.Install(api.Saved{Slot: slot, Last: 2})) // nothing stays: a page is enough
				holds(t, f, k, slot)
			}
		}
	}
}

// P9.5: a page is enough where nothing stays, and nothing is not.
func TestCheckpointLastPage(t *testing.T) {
	f, k := tight(t, 0)
	must(t, k.Commit(29))
	same(t, f.SetFuse(30, 1), api.OK) // a base, 27 entries, the next one torn, and a block erased among them
	same(t, k.Checkpoint(1, nil), api.ErrDown)
	same(t, f.Restart(), api.OK)
	k = opened(t, f)
	must(t, k.Commit(28))
	refuses(t, f, k, api.ErrFull, func() api.Errno { return k.Checkpoint(28, nil) })
	g := f.Clone()
	must(t, opened(t, g).Install(api.Saved{Slot: 40, Last: 1}))
	same(t, f.SetFuse(1, 2), api.OK) // a base that no checkpoint follows
	same(t, k.Install(api.Saved{Slot: 40, Last: 1}), api.ErrDown)
	same(t, f.Restart(), api.OK)
	k = opened(t, f)
	must(t, k.Commit(29))
	for _, call := range []func() api.Errno{
		func() api.Errno { return k.Vote(9, 1) },
		func() api.Errno { return k.Append(29, none(2)) },
		func() api.Errno { return k.Checkpoint(29, nil) },
		func() api.Errno { return k.Install(api.Saved{Slot: 40, Last: 1}) },
	} {
		refuses(t, f, k, api.ErrFull, call)
	}
	same(t, k.Room(), 0)
}
