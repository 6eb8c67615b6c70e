package replica_test

import (
	"testing"

	"trivet/api"
	"trivet/keeper"
	"trivet/record"
)

// broken fails the test, unless all calls that could write answer ErrBroken, whatever they are given, and what it knows is told still.
func (o *one) broken(t testing.TB, self int) {
	t.Helper()
	same(t, o.Broken(), true)
	for range 15 {
		o.refuses(t, api.ErrBroken)(o.Tick())
	}
	for _, term := range []int64{0, o.Term(), o.Term() + 1} {
		for _, m := range kinds(term) {
			m.To, m.From = self, (self+1)%3
			o.refuses(t, api.ErrBroken)(o.Step(m))
			m.To = 9
			o.refuses(t, api.ErrBroken)(o.Step(m))
		}
	}
	o.refuses(t, api.ErrBroken)(o.Propose(batch(1)))
	o.refuses(t, api.ErrBroken)(o.Propose(api.Entry{Kind: 9}))
	for _, slot := range []int64{-1, 0, o.Told(), o.Told() + 1} {
		o.refuses(t, api.ErrBroken)(nil, o.Checkpoint(slot, nil))
	}
}

// breaks lets the power go within the count-th change of a call. That is to be the call's answer, without messages; the replica is broken for good, and all that was kept is there when it is opened again.
func (o *one) breaks(t testing.TB, self, count int, call func() ([]api.Msg, api.Errno)) {
	t.Helper()
	must(t, o.f.SetFuse(count, 0))
	l, e := call()
	if len(l) > 0 || e != api.ErrDown {
		t.Error(l, e)
	}
	o.broken(t, self)
	must(t, o.f.Restart())
	o.broken(t, self)
	k, e := keeper.Open(o.f)
	must(t, e)
	same(t, k.Term(), o.k.Term())
	same(t, k.Length(), o.k.Length())
	same(t, k.Last(), o.k.Last())
}

func (o *one) steps(m api.Msg) func() ([]api.Msg, api.Errno) {
	return func() ([]api.Msg, api.Errno) { return o.Step(m) }
}

// P10.2: a keeper that breaks when one would stand: nothing else has changed.
func TestBreaksAtStanding(t *testing.T) {
	for _, n := range []int{1, 3} {
		o := begun(t, n, 0, hasVote(7, -1), hasLog(1, 2))
		o.ticks(t, 3)
		was := o.Term()
		o.breaks(t, 0, 1, o.Tick)
		o.known(t, api.RoleFollow, -1)
		same(t, o.Term(), was)
	}
	o := begun(t, 3, 0)
	o.stands(t, 0)
	o.ticks(t, 3)
	o.breaks(t, 0, 1, o.Tick)
	o.known(t, api.RoleStand, -1)
	same(t, o.Term(), 1)
	o = begun(t, 3, 0)
	o.Step(sends(2, 0, 4, 0, 0, 0))
	o.ticks(t, 3)
	o.breaks(t, 0, 1, o.Tick)
	o.known(t, api.RoleFollow, 2)
	same(t, o.Term(), 4)
}

// Words (it leads): one that breaks with its first entry leads, and says nothing.
func TestBreaksAtLeading(t *testing.T) {
	o := begun(t, 1, 0, hasVote(7, -1), hasLog(1, 2))
	o.ticks(t, 3)
	o.breaks(t, 0, 2, o.Tick)
	o.known(t, api.RoleLead, 0)
	same(t, o.Term(), 8)
	same(t, o.k.Length(), 2)
	same(t, o.Upto(), 0)
	o = begun(t, 3, 0, hasLog(0))
	o.stands(t, 0)
	o.breaks(t, 0, 1, o.steps(votes(1, 0, 1, true)))
	o.known(t, api.RoleLead, 0)
	same(t, o.k.Length(), 1)
}

// P10.3: one that breaks with what is proposed.
func TestBreaksAtProposing(t *testing.T) {
	for _, count := range []int{1, 2, 6} {
		o := begun(t, 3, 0)
		o.leads(t, 3, 0)
		o.breaks(t, 0, count, func() ([]api.Msg, api.Errno) { return o.Propose(wide(3)) })
		o.known(t, api.RoleLead, 0)
		same(t, o.k.Length(), 1)
		o = begun(t, 3, 0)
		o.leads(t, 3, 0)
		o.breaks(t, 0, count, o.steps(forwards(2, 0, wide(3))))
		same(t, o.k.Length(), 1)
	}
}

// P10.4: one that breaks when it hears of a term: it is still what it was.
func TestBreaksAtHearing(t *testing.T) {
	for _, m := range kinds(9) {
		if m.Kind == api.MsForward {
			continue
		}
		o := begun(t, 3, 1)
		o.leads(t, 3, 1)
		o.breaks(t, 1, 1, o.steps(m))
		o.known(t, api.RoleLead, 1)
		same(t, o.Term(), 1)
	}
}

// P10.4: one that breaks when it gives its vote: it has heard of the term by then.
func TestBreaksAtVoting(t *testing.T) {
	o := begun(t, 3, 1, hasVote(7, -1))
	o.breaks(t, 1, 2, o.steps(asks(0, 1, 8, 9, 9))) // the first change is the term's
	same(t, o.Term(), 8)
	_, voted := o.k.Voted()
	same(t, voted, false)
	o = begun(t, 3, 1, hasVote(7, -1))
	o.breaks(t, 1, 1, o.steps(asks(0, 1, 7, 9, 9)))
	same(t, o.Term(), 7)
	_, voted = o.k.Voted()
	same(t, voted, false)
}

// P10.4: one that breaks with the entries that it is sent: what was put ahead stays, nothing of them is chosen.
func TestBreaksAtTaking(t *testing.T) {
	for put := range 3 {
		o := begun(t, 3, 1, hasVote(7, -1), hasLog(1, 2, 3))
		o.breaks(t, 1, 1+put, o.steps(sends(0, 1, 7, 1, 1, 4, list(1, 4, 4, 4)...)))
		o.known(t, api.RoleFollow, 0)
		if put == 0 {
			same(t, o.terms(), "0 [1 2 3]")
		} else {
			same(t, o.terms(), []string{"0 [1 4]", "0 [1 4 4]"}[put-1])
		}
		same(t, o.Upto(), 0)
	}
}

// P10.4, P10.5: one that breaks with a checkpoint.
func TestBreaksAtCheckpoints(t *testing.T) {
	for count := 1; count <= 3; count++ {
		o := begun(t, 3, 1, hasVote(7, -1), hasLog(1, 2, 3), hasChosen(2))
		says(t)(o.Step(hands(0, 1, 7, 9, 5, 0, 2, filled(300))))
		o.breaks(t, 1, count, o.steps(hands(0, 1, 7, 9, 5, 1, 2, "b")))
		o.known(t, api.RoleFollow, 0)
		same(t, o.First(), 0)
		o.next(t, 0, list(0, 1)[0].Entry)
		o = begun(t, 3, 1, hasVote(7, -1), hasLog(1, 2, 3), hasChosen(2))
		o.Next()
		o.breaks(t, 1, count, func() ([]api.Msg, api.Errno) { return nil, o.Checkpoint(1, []byte(filled(300))) })
		same(t, o.First(), 0)
		same(t, o.Told(), 1)
		o.next(t, 1, list(1, 2)[0].Entry)
		o.nothing(t)
		x, is := o.Chosen(0)
		same(t, is && record.SameEntry(x, list(0, 1)[0].Entry), true)
	}
}

// A keeper that is broken by another one's doing is found so by each call.
func TestBrokenAhead(t *testing.T) {
	o := begun(t, 3, 0)
	o.leads(t, 3, 0)
	must(t, o.f.Crash())
	same(t, o.Broken(), false)
	says(t, sends(0, 1, 1, 1, 1, 0), sends(0, 2, 1, 1, 1, 0))(o.Tick()) // nothing is written by that
	same(t, o.k.Vote(9, -1), api.ErrDown)
	o.broken(t, 0)
}
