package replica_test

import (
	"math"
	"testing"

	"trivet/api"
	"trivet/record"
)

// P10.5: Next tells each slot once, in order, what is chosen alone; Restore comes in between, where the log is cut.
func TestNextAndRestore(t *testing.T) {
	o := begun(t, 3, 1)
	l := list(0, 1, 1, 2, 2, 3, 3, 3)
	o.Step(sends(0, 1, 4, 0, 0, 0, l...))
	o.nothing(t)
	o.Step(sends(0, 1, 4, 1, 1, 1))
	o.next(t, 0, l[0].Entry)
	o.nothing(t)
	o.Step(sends(0, 1, 4, 4, 2, 4))
	o.next(t, 1, l[1].Entry)
	o.next(t, 2, l[2].Entry)
	// a checkpoint below what is told, and just at it, is nothing new
	must(t, o.Checkpoint(2, []byte("two")))
	same(t, o.Told(), 3)
	must(t, o.Checkpoint(3, []byte("three")))
	if slot, b, is := o.Restore(); slot != 0 || len(b) > 0 || is {
		t.Error(slot, b, is)
	}
	same(t, o.Told(), 3)
	o.next(t, 3, l[3].Entry)
	o.nothing(t)
	// one that is sent is one slot ahead
	says(t, tells(1, 0, 4, true, 5))(o.Step(hands(0, 1, 4, 5, 3, 0, 1, "five")))
	same(t, o.Told(), 4)
	if slot, x, is := o.Next(); slot != 0 || is || !record.SameEntry(x, api.Entry{}) {
		t.Error(slot, x, is)
	}
	o.installed(t, 5, 3, "five")
	o.nothing(t)
	o.Step(sends(0, 1, 4, 6, 3, 6))
	o.next(t, 5, l[5].Entry)
	o.nothing(t)
}

// P10.5: a checkpoint that is sent just at what is told next is not told: all of it was told.
func TestRestoreAtTold(t *testing.T) {
	o := begun(t, 3, 1, hasLog(1, 1, 1), hasChosen(2))
	o.Next()
	o.Next()
	must(t, o.k.Commit(3))
	must(t, o.k.Checkpoint(2, []byte("two")))
	if slot, b, is := o.Restore(); slot != 0 || len(b) > 0 || is {
		t.Error(slot, b, is)
	}
	o.next(t, 2, list(2, 1)[0].Entry)
}

// P10.5: which checkpoints are made.
func TestCheckpoint(t *testing.T) {
	for _, x := range []struct {
		slot int64
		want api.Errno
	}{{math.MinInt64, api.ErrSlot}, {-1, api.ErrSlot}, {0, api.ErrSlot}, {2, api.ErrSlot}, {3, api.ErrSlot}, {4, api.OK}, {5, api.OK}, {6, api.ErrArg}, {7, api.ErrArg}, {8, api.ErrArg}, {10, api.ErrArg}, {top, api.ErrArg}, {math.MaxInt64, api.ErrArg}} {
		o := follower(t)
		o.Step(sends(0, 1, 7, 7, 4, 7))
		o.Restore()
		o.Next()
		o.Next()
		same(t, o.Told(), 5)
		same(t, o.Upto(), 7)
		if x.want != api.OK {
			o.refuses(t, x.want)(nil, o.Checkpoint(x.slot, []byte("new")))
			continue
		}
		must(t, o.Checkpoint(x.slot, []byte("new")))
		same(t, o.First(), x.slot)
		same(t, o.Upto(), 7)
		same(t, o.Told(), 5)
		o.next(t, 5, list(5, 4)[0].Entry)
		w := opened(t, o.f, 3, 1)
		w.installed(t, x.slot, 2, "new")
		o = w
		o.refuses(t, api.ErrSlot)(nil, o.Checkpoint(x.slot, []byte("new")))
	}
	// ahead of any that is told there is none
	o := follower(t)
	o.refuses(t, api.ErrArg)(nil, o.Checkpoint(4, nil))
	o.refuses(t, api.ErrSlot)(nil, o.Checkpoint(0, nil))
	// and where the keeper has no room, that is the answer
	f, k := kept(t, 8, hasLog(0, 0), hasChosen(2))
	o = over(t, f, k, 3, 1)
	o.Next()
	o.refuses(t, api.ErrFull)(nil, o.Checkpoint(1, make([]byte, 1<<20)))
	must(t, o.Checkpoint(1, nil))
}

// P10.5: Chosen tells what is in the log and chosen, told or not.
func TestChosen(t *testing.T) {
	o := follower(t)
	o.Step(sends(0, 1, 7, 7, 4, 7))
	l := list(0, 1, 1, 2, 2, 2, 4, 4, 4, 6, 6)
	for _, slot := range []int64{math.MinInt64, -1, 0, 1, 2, 3, 4, 5, 6, 7, 8, 9, 10, 11, top, math.MaxInt64} {
		x, is := o.Chosen(slot)
		want := api.Entry{}
		if slot >= 3 && slot < 7 {
			want = l[slot].Entry
		}
		if is != (slot >= 3 && slot < 7) || !record.SameEntry(x, want) {
			t.Error(slot, x, is)
		}
	}
	o.Restore()
	same(t, o.Told(), 3)
}

// P10.5: the leader is known by what it sends, in its term alone.
func TestLeader(t *testing.T) {
	o := begun(t, 3, 1, hasVote(7, -1))
	o.known(t, api.RoleFollow, -1)
	o.Step(asks(2, 1, 7, 9, 9)) // who gets the vote does not lead yet
	o.known(t, api.RoleFollow, -1)
	o.Step(sends(2, 1, 7, 0, 0, 0))
	o.known(t, api.RoleFollow, 2)
	o.Step(sends(0, 1, 6, 0, 0, 0))
	o.known(t, api.RoleFollow, 2)
	o.Step(asks(0, 1, 8, 0, 0))
	o.known(t, api.RoleFollow, -1)
	o.Step(hands(0, 1, 8, 5, 5, 0, 2, "x"))
	o.known(t, api.RoleFollow, 0)
	o.stands(t, 1)
	o.known(t, api.RoleStand, -1)
	o.Step(votes(0, 1, 9, true))
	o.known(t, api.RoleLead, 1)
	o.Step(tells(0, 1, 10, true, 0))
	o.known(t, api.RoleFollow, -1)
	same(t, o.Term(), 10)
	// the replica 0 is a leader as any other
	o = begun(t, 1, 0)
	o.ticks(t, 4)
	o.known(t, api.RoleLead, 0)
}
