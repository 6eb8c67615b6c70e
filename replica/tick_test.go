package replica_test

import (
	"testing"

	"trivet/api"
	"trivet/keeper"
	"trivet/replica"
)

// noRoom fills a keeper till not even a vote finds room. Its last term is answered.
func noRoom(t testing.TB, k *keeper.Keeper) int64 {
	t.Helper()
	term := k.Term()
	for {
		e := k.Vote(term+1, -1)
		if e == api.ErrFull {
			return term
		}
		must(t, e)
		term++
	}
}

// noRoomBut fills a keeper till just so many votes find room, which is too little for an entry.
func noRoomBut(t testing.TB, k *keeper.Keeper, votes int) {
	t.Helper()
	for term := k.Term() + 1; k.Room() > votes; term++ {
		must(t, k.Vote(term, -1))
	}
	same(t, k.Room(), votes)
}

// P10.2: in a group one stands just with its patience, and again with it, each time in a new term, in which its vote is its own.
func TestTickStands(t *testing.T) {
	for n := 2; n <= api.MaxReplicas; n++ {
		for self := range n {
			o := begun(t, n, self, hasVote(7, -1), hasLog(2, 3, 5))
			for round := range int64(3) {
				o.ticks(t, replica.Patience(self)-1)
				same(t, o.Term(), 7+round)
				var want []api.Msg
				for i := range n {
					if i != self {
						want = append(want, asks(self, i, 8+round, 3, 5))
					}
				}
				says(t, want...)(o.Tick())
				o.known(t, api.RoleStand, -1)
				same(t, o.Term(), 8+round)
				same(t, o.k.Term(), 8+round)
				who, voted := o.k.Voted()
				same(t, who, self)
				same(t, voted, true)
				other := (self + 1) % n
				says(t, votes(self, other, 8+round, false))(o.Step(asks(other, self, 8+round, 9, 9)))
			}
			same(t, o.terms(), "0 [2 3 5]")
		}
	}
}

// P10.2: the Length and Last of one that has a checkpoint, and nothing behind it.
func TestTickStandsOverState(t *testing.T) {
	o := begun(t, 2, 0, hasLog(2, 3), hasChosen(2), hasState(2, "two"))
	o.ticks(t, 3)
	says(t, asks(0, 1, 1, 2, 3))(o.Tick())
}

// P10.2: alone one leads with its patience, and stays leader.
func TestTickAlone(t *testing.T) {
	o := begun(t, 1, 0, hasVote(7, 0), hasLog(2, 3))
	o.ticks(t, 3)
	o.known(t, api.RoleFollow, -1)
	same(t, o.Upto(), 0)
	o.ticks(t, 1)
	o.known(t, api.RoleLead, 0)
	same(t, o.Term(), 8)
	same(t, o.terms(), "0 [2 3 8]")
	same(t, o.Upto(), 3)
	o.ticks(t, 20)
	o.known(t, api.RoleLead, 0)
	same(t, o.Term(), 8)
	same(t, o.k.Length(), 3)
}

// P10.2: a leader's tick sends to each of the others, from where its book says, and it never stands.
func TestTickLeads(t *testing.T) {
	o := begun(t, 4, 2, hasLog(1, 1))
	o.leads(t, 4, 2)
	for range 30 {
		says(t, sends(2, 0, 1, 3, 1, 0), sends(2, 1, 1, 3, 1, 0), sends(2, 3, 1, 3, 1, 0))(o.Tick())
	}
	l := list(0, 1, 1)
	l = append(l, termed(1, api.Entry{}))
	says(t, sends(2, 1, 1, 0, 0, 0, l...))(o.Step(tells(1, 2, 1, false, 0)))
	says(t, sends(2, 0, 1, 2, 1, 0, l[2:]...))(o.Step(tells(0, 2, 1, false, 2)))
	says(t, sends(2, 0, 1, 3, 1, 0), sends(2, 1, 1, 3, 1, 0), sends(2, 3, 1, 3, 1, 0))(o.Tick())
	o.known(t, api.RoleLead, 2)
}

// P10.2: what lets a follower wait anew, and what does not.
func TestTickWaits(t *testing.T) {
	for _, x := range []struct {
		name  string
		do    func(o *one)
		fresh bool
	}{
		{"nothing", func(o *one) {}, false},
		{"entries", func(o *one) { o.Step(sends(0, 1, 3, 0, 0, 0)) }, true},
		{"entries that are refused", func(o *one) { o.Step(sends(0, 1, 3, 9, 0, 0)) }, true},
		{"entries of a new term", func(o *one) { o.Step(sends(0, 1, 4, 0, 0, 0)) }, true},
		{"entries of an old term", func(o *one) { o.Step(sends(0, 1, 2, 0, 0, 0)) }, false},
		{"a part", func(o *one) { o.Step(hands(0, 1, 3, 9, 1, 0, 2, "x")) }, true},
		{"a part of an old term", func(o *one) { o.Step(hands(0, 1, 2, 9, 1, 0, 2, "x")) }, false},
		{"a vote that it gives", func(o *one) { o.Step(asks(0, 1, 3, 9, 9)) }, true},
		{"a vote that it gives, of a new term", func(o *one) { o.Step(asks(0, 1, 4, 9, 9)) }, true},
		{"a vote that it refuses", func(o *one) { o.Step(asks(0, 1, 3, 0, 0)) }, false},
		{"a vote that it refuses, of a new term", func(o *one) { o.Step(asks(0, 1, 4, 0, 0)) }, false},
		{"a new term", func(o *one) { o.Step(tells(0, 1, 4, true, 0)) }, false},
		{"an old vote", func(o *one) { o.Step(votes(0, 1, 3, true)) }, false},
		{"a forwarded one", func(o *one) { o.Step(forwards(0, 1, batch(1))) }, false},
		{"one that may not be", func(o *one) { o.Step(sends(4, 1, 3, 0, 0, 0)) }, false},
		{"what it is proposed", func(o *one) { o.Propose(batch(1)) }, false},
		{"what is asked of it", func(o *one) { o.Next(); o.Restore(); o.Checkpoint(0, nil); o.seen() }, false},
	} {
		for short := 1; short <= 2; short++ {
			o := begun(t, 3, 1, hasVote(3, -1), hasLog(1))
			o.ticks(t, 6-short)
			x.do(o)
			if x.fresh {
				o.ticks(t, 5)
			} else {
				o.ticks(t, short-1)
			}
			if l, e := o.Tick(); len(l) != 2 || e != api.OK || o.Role() != api.RoleStand {
				t.Error(x.name, short, l, e, o.Role())
			}
		}
	}
}

// P10.2: one that has stood waits no shorter, whether it was refused, or follows then.
func TestTickStandsAgain(t *testing.T) {
	o := begun(t, 3, 0)
	o.stands(t, 0)
	says(t)(o.Step(votes(1, 0, 1, false)))
	o.ticks(t, 3)
	says(t, asks(0, 1, 2, 0, 0), asks(0, 2, 2, 0, 0))(o.Tick())
	o.ticks(t, 2)
	says(t, tells(0, 1, 2, true, 0))(o.Step(sends(1, 0, 2, 0, 0, 0)))
	o.known(t, api.RoleFollow, 1)
	o.ticks(t, 3)
	o.known(t, api.RoleFollow, 1)
	says(t, asks(0, 1, 3, 0, 0), asks(0, 2, 3, 0, 0))(o.Tick())
	o.known(t, api.RoleStand, -1)
}

// P10.2: a leader that hears of a later term has waited for no ticks since it leads.
func TestTickBehindLeading(t *testing.T) {
	o := begun(t, 3, 1)
	o.leads(t, 3, 1)
	for range 9 {
		o.Tick()
	}
	says(t)(o.Step(votes(2, 1, 5, false)))
	o.known(t, api.RoleFollow, -1)
	o.ticks(t, 5)
	says(t, asks(1, 0, 6, 1, 1), asks(1, 2, 6, 1, 1))(o.Tick())
}

// P10.2: there is no term behind MaxTime.
func TestTickLastTerm(t *testing.T) {
	for _, n := range []int{1, 3} {
		o := begun(t, n, 0, hasVote(top-1, -1))
		o.ticks(t, 3)
		_, e := o.Tick()
		must(t, e)
		same(t, o.Term(), top)
		if n == 1 {
			same(t, o.Role(), api.RoleLead)
			same(t, o.Upto(), 1)
		}
		o = begun(t, n, 0, hasVote(top, -1))
		for range 3 { // its wait is 0 behind that, so that it waits again
			o.ticks(t, 3)
			o.refuses(t, api.ErrLong)(o.Tick())
		}
		o.known(t, api.RoleFollow, -1)
	}
	// what it was it stays
	o := begun(t, 3, 0, hasVote(top-1, -1))
	o.stands(t, 0)
	o.ticks(t, 3)
	o.refuses(t, api.ErrLong)(o.Tick())
	o.known(t, api.RoleStand, -1)
	says(t, sends(0, 1, top, 0, 0, 0, termed(top, api.Entry{})), sends(0, 2, top, 0, 0, 0, termed(top, api.Entry{})))(o.Step(votes(1, 0, top, true)))
	o = begun(t, 3, 0, hasVote(top, -1))
	says(t, tells(0, 2, top, true, 0))(o.Step(sends(2, 0, top, 0, 0, 0)))
	o.ticks(t, 3)
	o.refuses(t, api.ErrLong)(o.Tick())
	o.known(t, api.RoleFollow, 2)
}

// P10.2: where the keeper refuses the vote, that is the answer; the wait begins anew, nothing else has changed.
func TestTickVoteRefused(t *testing.T) {
	for _, n := range []int{1, 3} {
		f, k := kept(t, 8, hasLog(1, 1), hasChosen(2))
		noRoom(t, k)
		o := over(t, f, k, n, 0)
		for range 2 {
			o.ticks(t, 3)
			o.refuses(t, api.ErrFull)(o.Tick())
			o.known(t, api.RoleFollow, -1)
		}
		must(t, k.Checkpoint(2, nil)) // there is room again
		o.ticks(t, 3)
		_, e := o.Tick()
		must(t, e)
		same(t, o.Role() != api.RoleFollow, true)
	}
	// one that stands stands on in its old term
	f, k := kept(t, 8)
	noRoomBut(t, k, 1)
	o := over(t, f, k, 3, 0)
	o.stands(t, 0)
	o.ticks(t, 3)
	o.refuses(t, api.ErrFull)(o.Tick())
	o.known(t, api.RoleStand, -1)
	// one that follows knows its leader still
	f, k = kept(t, 8)
	term := noRoom(t, k)
	o = over(t, f, k, 3, 0)
	says(t, tells(0, 1, term, true, 0))(o.Step(sends(1, 0, term, 0, 0, 0)))
	o.ticks(t, 3)
	o.refuses(t, api.ErrFull)(o.Tick())
	o.known(t, api.RoleFollow, 1)
}

// Words (it leads): where the keeper has no room for the first entry, it leads without it, and nothing is chosen.
func TestLeadsWithoutRoom(t *testing.T) {
	f, k := kept(t, 8, hasLog(0))
	noRoomBut(t, k, 1)
	o := over(t, f, k, 1, 0)
	term := o.Term() + 1
	o.ticks(t, 4)
	o.known(t, api.RoleLead, 0)
	same(t, o.Term(), term)
	same(t, o.terms(), "0 [0]")
	same(t, o.Upto(), 0)
	f, k = kept(t, 8, hasLog(0))
	noRoomBut(t, k, 1)
	o = over(t, f, k, 2, 0)
	o.stands(t, 0)
	says(t, sends(0, 1, term, 1, 0, 0))(o.Step(votes(1, 0, term, true)))
	o.known(t, api.RoleLead, 0)
	says(t)(o.Step(tells(1, 0, term, true, 1)))
	same(t, o.Upto(), 0) // for a majority has it, but it is of another term
}

// Words (it leads): slots run out likewise.
func TestLeadsAtTheLastSlot(t *testing.T) {
	f, k := kept(t, 8)
	must(t, k.Install(api.Saved{Slot: top - 1, Last: 0}))
	o := over(t, f, k, 1, 0)
	o.ticks(t, 4)
	same(t, o.Upto(), top)
	o.refuses(t, api.ErrSlot)(o.Propose(batch(1)))
	if slot, _, is := o.Restore(); slot != top-1 || !is {
		t.Error(slot, is)
	}
	o.next(t, top-1, api.Entry{})
	o.nothing(t)
	must(t, o.Checkpoint(top, nil))
	f, k = kept(t, 8)
	must(t, k.Install(api.Saved{Slot: top, Last: 0}))
	o = over(t, f, k, 1, 0)
	o.ticks(t, 4)
	o.known(t, api.RoleLead, 0)
	same(t, o.Upto(), top)
	same(t, k.Length(), top)
}
