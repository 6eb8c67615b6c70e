package keeper_test

import (
	"bytes"
	"fmt"
	"math"
	"slices"
	"strings"
	"testing"

	"trivet/api"
	"trivet/flash"
	"trivet/keeper"
	"trivet/record"
)

const top = int64(api.MaxTime)

func made(t testing.TB, blocks int) *flash.Flash {
	t.Helper()
	f, e := flash.New(blocks)
	if f == nil || e != api.OK {
		t.Fatal(blocks, e)
	}
	return f
}

func opened(t testing.TB, f *flash.Flash) *keeper.Keeper {
	t.Helper()
	k, e := keeper.Open(f)
	if k == nil || e != api.OK {
		t.Fatal("Open answers", k, e)
	}
	return k
}

// fresh is a keeper on a new flash.
func fresh(t testing.TB, blocks int) (*flash.Flash, *keeper.Keeper) {
	t.Helper()
	f := made(t, blocks)
	return f, opened(t, f)
}

func same[T comparable](t testing.TB, got, want T) {
	t.Helper()
	if got != want {
		t.Error(got, "not", want)
	}
}

// must fails the test at once, unless a call has answered OK.
func must(t testing.TB, e api.Errno) {
	t.Helper()
	if e != api.OK {
		t.Fatal("answers", e)
	}
}

// none is an entry that holds nothing.
func none(term int64) api.Termed { return api.Termed{Term: term} }

// batch is an entry with one transaction; what tells it from others is n.
func batch(term, n int64) api.Termed {
	return api.Termed{Term: term, Entry: api.Entry{Kind: api.EnBatch, From: int(n) % 5, Number: n, Txns: []api.Txn{{Session: 1, Request: n + 1}}}}
}

// filled is so many bytes that repeat late.
func filled(n int) []byte {
	b := make([]byte, n)
	for i := range b {
		b[i] = byte(i*7 + i>>8)
	}
	return b
}

// long is an entry whose form has just so many bytes, 18 at least; of some sizes there is none.
func long(t testing.TB, term int64, size int) api.Termed {
	t.Helper()
	x := batch(term, 3)
	for len(x.Entry.Txns) <= api.MaxTxns {
		last := &x.Entry.Txns[len(x.Entry.Txns)-1]
		for _, args := range [][]int64{nil, {0}, {0, 0}} { // for sizes that a Code alone does not come to, its length having more bytes now and then
			last.Code, last.Args = nil, args
			b, e := record.Entry(x.Entry)
			must(t, e)
			lack := size - len(b)
			for code := max(0, lack-3); code <= min(api.MaxCode, lack); code++ {
				last.Code = filled(code)
				if b, _ := record.Entry(x.Entry); len(b) == size {
					return x
				}
			}
		}
		last.Code = filled(api.MaxCode)
		x.Entry.Txns = append(x.Entry.Txns, api.Txn{Session: 2, Request: 1})
	}
	t.Fatal("no entry of", size, "bytes")
	return x
}

// wide is an entry whose record has just so many pages, at any slot and term below 256.
func wide(t testing.TB, term int64, pages int) api.Termed {
	t.Helper()
	if pages == 1 {
		return batch(term, 3)
	}
	return long(t, term, 200*(pages-1)+100)
}

// seen is all that a keeper tells of itself, lists as texts.
type seen struct {
	kept
	upto, last  int64
	room        int
	low, broken bool
}

// kept is what of that must not be forgotten.
type kept struct {
	term          int64
	who           int
	voted         bool
	first, length int64
	log           string
	saved         string
	has           bool
}

// texts are entries as one text, each with its term and its form.
func texts(l ...api.Termed) string {
	var b strings.Builder
	for _, x := range l {
		form, e := record.Entry(x.Entry)
		fmt.Fprintf(&b, "%d %x %d;", x.Term, form, e)
	}
	return b.String()
}

func savedText(s api.Saved) string { return fmt.Sprintf("%d %d %x", s.Slot, s.Last, s.Data) }

// logOf is the log as All tells it; which is held against At and TermAt.
func logOf(t testing.TB, k *keeper.Keeper) []api.Termed {
	t.Helper()
	var l []api.Termed
	slot := k.First()
	for at, x := range k.All(math.MinInt64) {
		if at != slot {
			t.Fatal("All tells", at, "not", slot)
		}
		y, has := k.At(at)
		if term, is := k.TermAt(at); !has || !is || term != x.Term || texts(x) != texts(y) {
			t.Fatal("At", at, "is", y, has, "with the term", term, is, "not", x)
		}
		l = append(l, x)
		slot++
	}
	if slot != k.Length() {
		t.Fatal("All ends at", slot, "not", k.Length())
	}
	return l
}

func keptOf(t testing.TB, k *keeper.Keeper) kept {
	t.Helper()
	x := kept{term: k.Term(), first: k.First(), length: k.Length(), log: texts(logOf(t, k)...)}
	x.who, x.voted = k.Voted()
	s, has := k.State()
	x.saved, x.has = savedText(s), has
	return x
}

func look(t testing.TB, k *keeper.Keeper) seen {
	t.Helper()
	return seen{keptOf(t, k), k.Upto(), k.Last(), k.Room(), k.Low(), k.Broken()}
}

// refuses fails the test, unless a call answers an error and leaves the keeper and its flash as they were.
func refuses(t testing.TB, f *flash.Flash, k *keeper.Keeper, want api.Errno, call func() api.Errno) {
	t.Helper()
	was, before := f.Clone(), look(t, k)
	if e := call(); e != want {
		t.Error("answers", e, "not", want)
	}
	if after := look(t, k); after != before {
		t.Error("an error, but", before, "is now", after)
	}
	if !flash.Same(was, f) {
		t.Error("an error, but the flash is another one")
	}
}

// still fails the test, unless a call answers OK and leaves the keeper and its flash as they were.
func still(t testing.TB, f *flash.Flash, k *keeper.Keeper, call func() api.Errno) {
	t.Helper()
	refuses(t, f, k, api.OK, call)
}

// again fails the test, unless a keeper that is opened from the flash has all that this one keeps.
func again(t testing.TB, f *flash.Flash, k *keeper.Keeper) {
	t.Helper()
	w := opened(t, f.Clone())
	if got, want := keptOf(t, w), keptOf(t, k); got != want {
		t.Errorf("opened again: %+v, not %+v", got, want)
	}
	same(t, w.Upto(), w.First())
	same(t, w.Last(), k.Last())
	same(t, w.Room(), k.Room())
	same(t, w.Broken(), false)
}

// holds fails the test, unless the log has these entries from first on, and so it does opened again.
func holds(t testing.TB, f *flash.Flash, k *keeper.Keeper, first int64, l ...api.Termed) {
	t.Helper()
	same(t, k.First(), first)
	same(t, k.Length(), first+int64(len(l)))
	same(t, texts(logOf(t, k)...), texts(l...))
	again(t, f, k)
}

// The chapter's examples.
func TestExample(t *testing.T) {
	f, k := fresh(t, 8)
	same(t, k.Term(), 0)
	same(t, k.Length(), 0)
	must(t, k.Append(0, batch(1, 1)))
	same(t, k.Length(), 1)
	same(t, k.Last(), 1)
	must(t, k.Append(0, batch(2, 9)))
	same(t, k.Length(), 1)
	same(t, k.Last(), 2)
	holds(t, f, k, 0, batch(2, 9))
}

// P9.1: of a flash that nothing stands on: term 0, no vote, First 0, an empty log, no checkpoint.
func TestNothingThere(t *testing.T) {
	for _, blocks := range []int{8, 9, 10, 11, 12, 13, 400, 1024} {
		f, k := fresh(t, blocks)
		ring := blocks - blocks/4*2
		want := seen{kept: kept{saved: "0 0 "}, room: (ring-1)*16 - 1}
		if got := look(t, k); got != want {
			t.Errorf("%d blocks: %+v, not %+v", blocks, got, want)
		}
		if !flash.Same(f, made(t, blocks)) {
			t.Error("Open has written")
		}
	}
}

// P9.2: which terms and votes may follow which; those that are as they are, are not written.
func TestVote(t *testing.T) {
	type pair struct {
		term int64
		who  int
	}
	for _, x := range []struct {
		was, to pair
		want    api.Errno
		still   bool
	}{
		{pair{0, -1}, pair{0, -1}, api.OK, true},
		{pair{0, -1}, pair{0, 0}, api.OK, false},
		{pair{0, -1}, pair{0, 4}, api.OK, false},
		{pair{0, -1}, pair{0, 5}, api.ErrArg, false},
		{pair{0, -1}, pair{0, -2}, api.ErrArg, false},
		{pair{0, -1}, pair{-1, -1}, api.ErrArg, false},
		{pair{0, -1}, pair{math.MinInt64, 2}, api.ErrArg, false},
		{pair{0, -1}, pair{1, -1}, api.OK, false},
		{pair{0, -1}, pair{top, -1}, api.OK, false},
		{pair{0, -1}, pair{top + 1, -1}, api.ErrArg, false},
		{pair{0, -1}, pair{math.MaxInt64, 0}, api.ErrArg, false},
		{pair{7, -1}, pair{7, -1}, api.OK, true},
		{pair{7, -1}, pair{7, 3}, api.OK, false},
		{pair{7, -1}, pair{6, -1}, api.ErrArg, false},
		{pair{7, 3}, pair{7, 3}, api.OK, true},
		{pair{7, 3}, pair{7, 2}, api.ErrArg, false},
		{pair{7, 3}, pair{7, 4}, api.ErrArg, false},
		{pair{7, 3}, pair{7, -1}, api.ErrArg, false}, // what is given is not taken back
		{pair{7, 0}, pair{7, -1}, api.ErrArg, false},
		{pair{7, 0}, pair{7, 0}, api.OK, true},
		{pair{7, 0}, pair{7, 1}, api.ErrArg, false},
		{pair{7, 3}, pair{6, 3}, api.ErrArg, false},
		{pair{7, 3}, pair{8, 3}, api.OK, false},
		{pair{7, 3}, pair{8, 1}, api.OK, false},
		{pair{7, 3}, pair{8, -1}, api.OK, false},
		{pair{7, 3}, pair{8, 5}, api.ErrArg, false},
		{pair{7, 3}, pair{8, math.MaxInt}, api.ErrArg, false},
		{pair{7, 3}, pair{8, math.MinInt}, api.ErrArg, false},
		{pair{7, 3}, pair{300, 4}, api.OK, false},
		{pair{7, 3}, pair{top, 4}, api.OK, false},
		{pair{7, 3}, pair{top + 1, 4}, api.ErrArg, false},
		{pair{top, 1}, pair{top, 1}, api.OK, true},
		{pair{top, 1}, pair{top, 2}, api.ErrArg, false},
		{pair{top, -1}, pair{top, 2}, api.OK, false},
	} {
		f, k := fresh(t, 8)
		must(t, k.Vote(x.was.term, x.was.who))
		call := func() api.Errno { return k.Vote(x.to.term, x.to.who) }
		want := x.was
		switch {
		case x.want != api.OK:
			refuses(t, f, k, x.want, call)
		case x.still:
			still(t, f, k, call)
		default:
			room := k.Room()
			must(t, call())
			want = x.to
			if fell := room - k.Room(); fell > 1 {
				t.Error(x, "has taken", fell, "pages")
			}
		}
		who, given := k.Voted()
		if k.Term() != want.term || given != (want.who >= 0) || who != max(0, want.who) {
			t.Error(x, "is", k.Term(), who, given)
		}
		again(t, f, k)
	}
}

// P9.2: votes leave the log and the checkpoint as they are, and are told behind them.
func TestVoteBesideTheLog(t *testing.T) {
	f, k := fresh(t, 8)
	l := []api.Termed{batch(1, 1), none(2), batch(2, 2)}
	for i, x := range l {
		must(t, k.Vote(int64(i), -1))
		must(t, k.Append(int64(i), x))
		must(t, k.Vote(int64(i), i))
	}
	holds(t, f, k, 0, l...)
	must(t, k.Commit(2))
	must(t, k.Checkpoint(1, []byte("x")))
	must(t, k.Vote(9, 4))
	holds(t, f, k, 1, l[1:]...)
	same(t, k.Upto(), 2)
	same(t, k.Term(), 9)
}

// five is a keeper with a log of the slots 3 to 7, of the terms 2, 2, 4, 4, 6, of which those below 6 are chosen; the checkpoint's Last is 1.
func five(t testing.TB) (*flash.Flash, *keeper.Keeper, []api.Termed) {
	t.Helper()
	f, k := fresh(t, 12)
	l := []api.Termed{none(0), batch(1, 11), none(1), batch(2, 13), none(2), batch(4, 15), batch(4, 16), none(6)}
	must(t, k.Append(0, l...))
	must(t, k.Commit(4))
	must(t, k.Checkpoint(3, []byte("five")))
	must(t, k.Commit(6))
	return f, k, l[3:]
}

// P9.3: from which slots on may be put, how many; none at all is nothing.
func TestAppendSlots(t *testing.T) {
	for _, x := range []struct {
		slot int64
		l    []api.Termed
		want api.Errno
	}{
		{math.MinInt64, nil, api.ErrSlot},
		{-1, nil, api.ErrSlot},
		{2, nil, api.ErrSlot},
		{2, []api.Termed{none(1)}, api.ErrSlot},
		{2, []api.Termed{none(1), batch(2, 13), none(2)}, api.ErrSlot},
		{3, nil, api.OK},
		{7, nil, api.OK},
		{8, nil, api.OK},
		{9, nil, api.ErrSlot},
		{9, []api.Termed{none(6)}, api.ErrSlot},
		{9, []api.Termed{none(-1)}, api.ErrSlot}, // ahead of what is wrong with the entries
		{2, []api.Termed{none(-1)}, api.ErrSlot},
		{top, nil, api.ErrSlot},
		{math.MaxInt64, nil, api.ErrSlot},
		{math.MaxInt64, []api.Termed{none(6), none(6)}, api.ErrSlot},
	} {
		f, k, _ := five(t)
		refuses(t, f, k, x.want, func() api.Errno { return k.Append(x.slot, x.l...) })
		still(t, f, k, func() api.Errno { return k.Append(8, []api.Termed{}...) })
	}
}

// P9.3: no slot of the log is above MaxTime less 1.
func TestAppendAtMaxTime(t *testing.T) {
	f, k := fresh(t, 8)
	must(t, k.Install(api.Saved{Slot: top - 2, Last: 3}))
	refuses(t, f, k, api.ErrSlot, func() api.Errno { return k.Append(top-2, none(4), none(4), none(4)) })
	refuses(t, f, k, api.ErrSlot, func() api.Errno { return k.Append(top-2, none(-1), none(4), none(4)) })
	must(t, k.Append(top-2, none(4)))
	refuses(t, f, k, api.ErrSlot, func() api.Errno { return k.Append(top-2, none(4), none(4), none(4)) })
	refuses(t, f, k, api.ErrSlot, func() api.Errno { return k.Append(top-1, none(4), none(4)) })
	refuses(t, f, k, api.ErrSlot, func() api.Errno { return k.Append(top) })
	must(t, k.Append(top-2, none(4), batch(5, 1)))
	holds(t, f, k, top-2, none(4), batch(5, 1))
	refuses(t, f, k, api.ErrSlot, func() api.Errno { return k.Append(top, none(5)) })
	still(t, f, k, func() api.Errno { return k.Append(top) })
	refuses(t, f, k, api.ErrSlot, func() api.Errno { return k.Append(top + 1) })
	must(t, k.Commit(top))
	must(t, k.Checkpoint(top, nil))
	holds(t, f, k, top)
	same(t, k.Last(), 5)
	refuses(t, f, k, api.ErrSlot, func() api.Errno { return k.Append(top, none(5)) })
	still(t, f, k, func() api.Errno { return k.Append(top) })
}

// P9.3: what may not be an entry, and what clashes with what is chosen; of several wrong ones the first one's error is the answer, of each one the one that the chapter names first.
func TestAppendErrors(t *testing.T) {
	wrong := api.Termed{Term: 7, Entry: api.Entry{Kind: 9}}
	both := api.Termed{Term: -1, Entry: api.Entry{Kind: 9}}
	for _, x := range []struct {
		slot int64
		l    []api.Termed
		want api.Errno
	}{
		{8, []api.Termed{none(-1)}, api.ErrArg},
		{8, []api.Termed{none(math.MinInt64)}, api.ErrArg},
		{8, []api.Termed{none(top + 1)}, api.ErrArg},
		{8, []api.Termed{none(math.MaxInt64)}, api.ErrArg},
		{8, []api.Termed{wrong}, api.ErrField},
		{8, []api.Termed{{Term: 7, Entry: api.Entry{Number: 1}}}, api.ErrField},
		{8, []api.Termed{{Term: 7, Entry: api.Entry{Kind: api.EnBatch}}}, api.ErrField},
		{8, []api.Termed{{Term: 7, Entry: api.Entry{Kind: api.EnBatch, From: 5, Txns: batch(1, 1).Entry.Txns}}}, api.ErrField},
		{8, []api.Termed{both}, api.ErrArg},
		{8, []api.Termed{none(7), wrong}, api.ErrField},
		{8, []api.Termed{none(7), none(-1)}, api.ErrArg},
		{8, []api.Termed{wrong, none(-1)}, api.ErrField},
		{8, []api.Termed{none(-1), wrong}, api.ErrArg},
		{3, []api.Termed{none(1)}, api.ErrClash},
		{3, []api.Termed{none(3)}, api.ErrClash},
		{3, []api.Termed{none(0)}, api.ErrClash},
		{5, []api.Termed{none(3)}, api.ErrClash},
		{5, []api.Termed{none(top)}, api.ErrClash},
		{5, []api.Termed{batch(4, 15), none(5), none(-1)}, api.ErrArg}, // slot 6 is not chosen
		{5, []api.Termed{batch(4, 15), none(5), wrong}, api.ErrField},
		{3, []api.Termed{none(2), none(3), none(-1)}, api.ErrClash},
		{3, []api.Termed{none(2), none(3), wrong}, api.ErrClash},
		{3, []api.Termed{none(2), none(-1), none(3)}, api.ErrArg},
		{3, []api.Termed{none(2), wrong, none(3)}, api.ErrField},
		{3, []api.Termed{both, none(3)}, api.ErrArg},
		{3, []api.Termed{wrong}, api.ErrField}, // which clashes, too
		{3, []api.Termed{none(-1)}, api.ErrArg},
		{4, []api.Termed{none(2), none(5), none(7)}, api.ErrClash},
	} {
		f, k, l := five(t)
		refuses(t, f, k, x.want, func() api.Errno { return k.Append(x.slot, x.l...) })
		holds(t, f, k, 3, l...)
	}
}

// P9.3: which of the entries are put, and which stand there already; where one does not, all behind it goes.
func TestAppendPuts(t *testing.T) {
	for _, x := range []struct {
		slot   int64
		l      []api.Termed
		stay   int // of the five
		behind []api.Termed
	}{
		{8, []api.Termed{none(6)}, 5, []api.Termed{none(6)}},
		{8, []api.Termed{none(0)}, 5, []api.Termed{none(0)}},
		{8, []api.Termed{batch(top, 1)}, 5, []api.Termed{batch(top, 1)}},
		{8, []api.Termed{batch(6, 1), none(9), batch(7, 2)}, 5, []api.Termed{batch(6, 1), none(9), batch(7, 2)}},
		{7, []api.Termed{none(6)}, 5, nil},
		{7, []api.Termed{batch(6, 99)}, 5, nil}, // of the same term: it is taken to be the same
		{7, []api.Termed{none(7)}, 4, []api.Termed{none(7)}},
		{7, []api.Termed{none(5)}, 4, []api.Termed{none(5)}},
		{7, []api.Termed{none(6), none(8)}, 5, []api.Termed{none(8)}},
		{7, []api.Termed{batch(6, 99), none(8)}, 5, []api.Termed{none(8)}},
		{6, []api.Termed{batch(4, 16)}, 5, nil}, // what stands behind it stays
		{6, []api.Termed{batch(5, 1)}, 3, []api.Termed{batch(5, 1)}},
		{6, []api.Termed{batch(5, 1), none(6)}, 3, []api.Termed{batch(5, 1), none(6)}},
		{6, []api.Termed{batch(4, 1), none(6), none(7)}, 5, []api.Termed{none(7)}},
		{3, []api.Termed{none(2), none(2), none(4), none(4), none(6)}, 5, nil},
		{3, []api.Termed{none(2), none(2), none(4), none(4), none(6), none(6)}, 5, []api.Termed{none(6)}},
		{3, []api.Termed{none(2), none(2), none(4), none(5)}, 3, []api.Termed{none(5)}},
		{3, []api.Termed{none(2)}, 5, nil},
		{5, []api.Termed{none(4), none(3), none(6), none(6), batch(6, 2)}, 3, []api.Termed{none(3), none(6), none(6), batch(6, 2)}},
	} {
		f, k, l := five(t)
		want := slices.Concat(l[:x.stay], x.behind)
		if len(x.behind) == 0 {
			still(t, f, k, func() api.Errno { return k.Append(x.slot, x.l...) })
		} else {
			must(t, k.Append(x.slot, x.l...))
		}
		holds(t, f, k, 3, want...)
		same(t, k.Upto(), 6)
		same(t, k.Last(), want[len(want)-1].Term)
	}
}

// P9.3: an entry that stood there once, and went, is put again.
func TestAppendBackAndForth(t *testing.T) {
	f, k := fresh(t, 8)
	for range 3 {
		must(t, k.Append(0, batch(1, 1), batch(1, 2), batch(1, 3)))
		holds(t, f, k, 0, batch(1, 1), batch(1, 2), batch(1, 3))
		must(t, k.Append(1, batch(2, 4)))
		holds(t, f, k, 0, batch(1, 1), batch(2, 4))
	}
}

// P9.3: the greatest entry that may be is far shorter than MaxEntry, and is taken.
func TestLongestEntry(t *testing.T) {
	x := api.Termed{Term: top, Entry: api.Entry{Kind: api.EnBatch, From: 4, Number: top}}
	for range api.MaxTxns {
		txn := api.Txn{Session: top, Request: top, Code: filled(api.MaxCode)}
		for range api.MaxArgs {
			txn.Args = append(txn.Args, math.MinInt64)
		}
		for i := range int64(api.MaxKeys) {
			txn.Reads = append(txn.Reads, api.Key{Table: math.MinInt32, Row: math.MinInt64 + i})
			txn.Writes = append(txn.Writes, api.Key{Table: math.MinInt32, Row: math.MinInt64 + i})
		}
		x.Entry.Txns = append(x.Entry.Txns, txn)
	}
	b, e := record.Entry(x.Entry)
	must(t, e)
	if len(b) > api.MaxEntry/3 {
		t.Fatal("it has", len(b), "bytes: just MaxEntry and one more are to be tried, too")
	}
	f, k := fresh(t, 40)
	must(t, k.Install(api.Saved{Slot: top - 2}))
	must(t, k.Append(top-2, x, none(top)))
	holds(t, f, k, top-2, x, none(top))
}

// P9.3: what is chosen never falls, and is never more than the log has.
func TestCommit(t *testing.T) {
	f, k, l := five(t)
	for _, x := range []struct {
		upto int64
		want api.Errno
	}{
		{math.MinInt64, api.ErrSlot},
		{-1, api.ErrSlot},
		{3, api.ErrSlot},
		{5, api.ErrSlot},
		{6, api.OK},
		{7, api.OK},
		{7, api.OK},
		{6, api.ErrSlot},
		{9, api.ErrSlot},
		{top, api.ErrSlot},
		{math.MaxInt64, api.ErrSlot},
		{8, api.OK},
		{8, api.OK},
		{7, api.ErrSlot},
		{9, api.ErrSlot},
	} {
		was, before := f.Clone(), look(t, k)
		same(t, k.Commit(x.upto), x.want)
		if x.want == api.OK {
			before.upto = x.upto
		}
		if after := look(t, k); after != before {
			t.Errorf("Commit(%d): %+v, not %+v", x.upto, after, before)
		}
		if !flash.Same(f, was) {
			t.Error("Commit has written")
		}
	}
	holds(t, f, k, 3, l...)
	f, k = fresh(t, 8)
	still(t, f, k, func() api.Errno { return k.Commit(0) })
	refuses(t, f, k, api.ErrSlot, func() api.Errno { return k.Commit(1) })
}

// P9.4: Last, At and TermAt at the log's edges, with a checkpoint.
func TestReadWithCheckpoint(t *testing.T) {
	_, k, l := five(t)
	same(t, k.Last(), 6)
	for slot := int64(-3); slot < 12; slot++ {
		x, has := k.At(slot)
		term, is := k.TermAt(slot)
		switch {
		case slot >= 3 && slot < 8:
			same(t, texts(x), texts(l[slot-3]))
			same(t, has, true)
			same(t, term, l[slot-3].Term)
			same(t, is, true)
			continue
		case slot == 2:
			same(t, term, 1)
			same(t, is, true)
		default:
			same(t, term, 0)
			same(t, is, false)
		}
		same(t, has, false)
		same(t, texts(x), texts(none(0)))
	}
	for _, slot := range []int64{math.MinInt64, math.MaxInt64, top, top + 1} {
		_, has := k.At(slot)
		_, is := k.TermAt(slot)
		same(t, has || is, false)
	}
	s, has := k.State()
	same(t, savedText(s), savedText(api.Saved{Slot: 3, Last: 1, Data: []byte("five")}))
	same(t, has, true)
	must(t, k.Commit(8))
	must(t, k.Checkpoint(8, nil))
	same(t, k.Last(), 6)
	term, is := k.TermAt(7)
	same(t, term, 6)
	same(t, is, true)
	for _, slot := range []int64{6, 8} {
		_, is = k.TermAt(slot)
		same(t, is, false)
	}
}

// P9.4: the same without a checkpoint, of an empty log and of one with entries.
func TestReadWithoutCheckpoint(t *testing.T) {
	_, k := fresh(t, 8)
	for range 2 {
		for _, slot := range []int64{math.MinInt64, -2, -1, 0, 1, math.MaxInt64} {
			_, has := k.At(slot)
			term, is := k.TermAt(slot)
			if slot == 0 && k.Length() == 1 {
				same(t, has && is, true)
				same(t, term, 5)
				continue
			}
			same(t, has || is, false)
			same(t, term, 0)
		}
		same(t, k.Last(), 5*k.Length())
		s, has := k.State()
		same(t, savedText(s), "0 0 ")
		same(t, has, false)
		must(t, k.Append(0, none(5)))
	}
}

// P9.4: All from below First, from within, from Length and above, broken off at any point, and gone through again.
func TestAll(t *testing.T) {
	_, k, l := five(t)
	for from, skip := range map[int64]int{math.MinInt64: 0, -1: 0, 0: 0, 2: 0, 3: 0, 4: 1, 5: 2, 7: 4, 8: 5, 9: 5, top: 5, math.MaxInt64: 5} {
		seq := k.All(from)
		for stop := range 7 {
			var got []api.Termed
			for slot, x := range seq {
				if len(got) == stop {
					break
				}
				same(t, slot, int64(3+skip+len(got)))
				got = append(got, x)
			}
			same(t, texts(got...), texts(l[skip:skip+min(stop, 5-skip)]...))
		}
		for range seq {
			n := 0
			for range seq { // within itself
				n++
			}
			same(t, n, 5-skip)
		}
	}
}

// P9.4: the checkpoint's Data is as it was handed in, whatever its bytes are.
func TestStateData(t *testing.T) {
	for _, size := range []int{0, 1, 2, 127, 128, 255, 256, 257, 3000, 8115} {
		f, k := fresh(t, 8)
		must(t, k.Append(0, none(1)))
		must(t, k.Commit(1))
		must(t, k.Checkpoint(1, filled(size)))
		for _, k := range []*keeper.Keeper{k, opened(t, f)} {
			s, has := k.State()
			if !has || s.Slot != 1 || s.Last != 1 || !bytes.Equal(s.Data, filled(size)) {
				t.Error(size, "is", s.Slot, s.Last, len(s.Data), has)
			}
		}
	}
}
