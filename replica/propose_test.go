package replica_test

import (
	"testing"

	"trivet/api"
)

// wrong are entries that record refuses.
func wrong() []api.Entry {
	return []api.Entry{
		{Kind: -1}, {Kind: 2}, {Kind: api.EnNone, Number: 1}, {Kind: api.EnBatch}, {Kind: api.EnBatch, From: 5, Txns: []api.Txn{{Session: 1, Request: 1}}},
		{Kind: api.EnBatch, Txns: []api.Txn{{}}}, {Kind: api.EnBatch, Txns: make([]api.Txn, 17)},
	}
}

// P10.3: of one that does not lead.
func TestProposeToAnother(t *testing.T) {
	o := begun(t, 3, 1, hasVote(3, -1))
	o.refuses(t, api.ErrLeader)(o.Propose(batch(1)))
	o.refuses(t, api.ErrLeader)(o.Propose(api.Entry{}))
	for _, x := range wrong() { // record's error comes first
		o.refuses(t, api.ErrField)(o.Propose(x))
	}
	says(t, tells(1, 2, 3, true, 0))(o.Step(sends(2, 1, 3, 0, 0, 0)))
	was := o.seen()
	says(t, forwards(1, 2, batch(1)))(o.Propose(batch(1)))
	says(t, forwards(1, 2, api.Entry{}))(o.Propose(api.Entry{}))
	for _, x := range wrong() {
		o.refuses(t, api.ErrField)(o.Propose(x))
	}
	same(t, o.seen(), was)
	o.stands(t, 1)
	o.refuses(t, api.ErrLeader)(o.Propose(batch(1)))
	// of a part one knows the leader, too
	says(t)(o.Step(hands(0, 1, 4, 9, 1, 0, 2, "x")))
	says(t, forwards(1, 0, batch(1)))(o.Propose(batch(1)))
	// who leads in the new term is not known by hearing of it
	says(t)(o.Step(votes(0, 1, 5, false)))
	o.refuses(t, api.ErrLeader)(o.Propose(batch(1)))
}

// P10.3: one that leads puts the entry behind its log, with its term, and sends it to the others; a majority chooses it.
func TestProposeToTheLeader(t *testing.T) {
	o := begun(t, 3, 0, hasLog(0))
	o.leads(t, 3, 0)
	a, b := termed(1, batch(8)), termed(1, batch(9))
	says(t, sends(0, 1, 1, 2, 1, 0, a), sends(0, 2, 1, 2, 1, 0, a))(o.Propose(a.Entry))
	same(t, o.terms(), "0 [0 1 1]")
	same(t, o.Upto(), 0)
	for _, x := range wrong() {
		o.refuses(t, api.ErrField)(o.Propose(x))
	}
	says(t, sends(0, 1, 1, 1, 0, 0, termed(1, api.Entry{}), a))(o.Step(tells(1, 0, 1, false, 1)))
	says(t)(o.Step(tells(1, 0, 1, true, 2)))
	same(t, o.Upto(), 2)
	says(t, sends(0, 1, 1, 3, 1, 2, b), sends(0, 2, 1, 3, 1, 2, b))(o.Propose(b.Entry))
	says(t)(o.Step(tells(2, 0, 1, true, 4)))
	same(t, o.Upto(), 4)
	o.next(t, 0, list(0, 0)[0].Entry)
	o.next(t, 1, api.Entry{})
	o.next(t, 2, a.Entry)
	o.next(t, 3, b.Entry)
	o.nothing(t)
	says(t, sends(0, 1, 1, 4, 1, 4, termed(1, api.Entry{})), sends(0, 2, 1, 4, 1, 4, termed(1, api.Entry{})))(o.Propose(api.Entry{}))
}

// P10.3: alone what is proposed is chosen at once.
func TestProposeAlone(t *testing.T) {
	o := begun(t, 1, 0)
	o.ticks(t, 4)
	for n := range int64(20) {
		says(t)(o.Propose(batch(n)))
		same(t, o.Upto(), n+2)
	}
	o.next(t, 0, api.Entry{})
	for n := range int64(20) {
		o.next(t, n+1, batch(n))
	}
}

// P10.3: MaxOpen entries may wait to be chosen.
func TestProposeOpen(t *testing.T) {
	o := begun(t, 3, 0)
	o.leads(t, 3, 0)
	for n := range int64(63) {
		must(t, func() api.Errno { _, e := o.Propose(batch(n)); return e }())
	}
	same(t, o.k.Length(), 64)
	for range 2 {
		o.refuses(t, api.ErrFull)(o.Propose(batch(99)))
	}
	o.refuses(t, api.ErrField)(o.Propose(api.Entry{Kind: 9}))
	says(t)(o.Step(forwards(1, 0, batch(99)))) // likewise, but it answers nothing
	same(t, o.k.Length(), 64)
	says(t)(o.Step(tells(1, 0, 1, true, 1))) // one is chosen
	says(t, sends(0, 1, 1, 64, 1, 1, termed(1, batch(99))), sends(0, 2, 1, 64, 1, 1, termed(1, batch(99))))(o.Propose(batch(99)))
	o.refuses(t, api.ErrFull)(o.Propose(batch(100)))
	says(t)(o.Step(tells(2, 0, 1, true, 60)))
	same(t, o.Upto(), 60)
	for n := range int64(59) {
		must(t, func() api.Errno { _, e := o.Propose(batch(n)); return e }())
	}
	o.refuses(t, api.ErrFull)(o.Propose(batch(100)))
}

// P10.3: entries of a log that was taken over count as open ones, too.
func TestProposeOpenOfOthers(t *testing.T) {
	for many, want := range map[int]api.Errno{62: api.OK, 63: api.ErrFull, 64: api.ErrFull, 90: api.ErrFull} {
		f, k := kept(t, 64, hasLog(repeat(0, many)...))
		o := over(t, f, k, 2, 0)
		o.leads(t, 2, 0) // and its own first one
		_, e := o.Propose(batch(1))
		same(t, e, want)
	}
}

// P10.3: where the keeper is full, that is the answer.
func TestProposeFull(t *testing.T) {
	f, k := kept(t, 8)
	o := over(t, f, k, 3, 0)
	o.leads(t, 3, 0)
	n := int64(0)
	for e := api.OK; e == api.OK; n++ {
		was, length := o.seen(), k.Length()
		if _, e = o.Propose(wide(n)); e != api.OK {
			same(t, e, api.ErrFull)
			same(t, o.seen(), was)
			same(t, k.Length(), length)
		}
	}
	if n < 3 || k.Length() >= api.MaxOpen {
		t.Error("it is full behind", n)
	}
	o.refuses(t, api.ErrFull)(o.Propose(wide(90)))
	o.refuses(t, api.OK)(o.Step(forwards(2, 0, wide(90))))
	says(t, sends(0, 1, 1, k.Length(), 1, 0), sends(0, 2, 1, k.Length(), 1, 0))(o.Tick())
}

// P10.3: who lags behind the checkpoint is sent nothing by that, with the next tick all of it.
func TestProposeToWhoLags(t *testing.T) {
	o := begun(t, 4, 0, hasLog(0, 0, 0), hasChosen(3), hasState(2, "two"))
	o.leads(t, 4, 0)
	none := termed(1, api.Entry{})
	says(t, hands(0, 1, 1, 2, 0, 0, 1, "two"))(o.Step(tells(1, 0, 1, false, 1)))
	says(t, sends(0, 2, 1, 2, 0, 3, append(list(2, 0), none)...))(o.Step(tells(2, 0, 1, false, 2)))
	x := termed(1, batch(7))
	says(t, sends(0, 2, 1, 4, 1, 3, x), sends(0, 3, 1, 4, 1, 3, x))(o.Propose(x.Entry))
	says(t, hands(0, 1, 1, 2, 0, 0, 1, "two"), sends(0, 2, 1, 5, 1, 3), sends(0, 3, 1, 5, 1, 3))(o.Tick())
}

// P10.3: who is just at the checkpoint is sent what is proposed.
func TestProposeAtTheCheckpoint(t *testing.T) {
	o := begun(t, 3, 0)
	o.leads(t, 3, 0)
	says(t)(o.Step(tells(1, 0, 1, true, 1)))
	o.next(t, 0, api.Entry{})
	must(t, o.Checkpoint(1, []byte("one")))
	x := termed(1, batch(7))
	says(t, sends(0, 1, 1, 1, 1, 1, x), sends(0, 2, 1, 1, 1, 1, x))(o.Propose(x.Entry))
	says(t, hands(0, 2, 1, 1, 1, 0, 1, "one"))(o.Step(tells(2, 0, 1, false, 0)))
	y := termed(1, batch(8))
	says(t, sends(0, 1, 1, 2, 1, 1, y))(o.Propose(y.Entry))
}

// P10.4: what is forwarded is proposed, to one that leads; of whichever term that one is.
func TestForward(t *testing.T) {
	o := begun(t, 3, 0)
	o.refuses(t, api.OK)(o.Step(forwards(1, 0, batch(5))))
	o.stands(t, 0)
	o.refuses(t, api.OK)(o.Step(forwards(1, 0, batch(5))))
	o.Step(votes(1, 0, 1, true))
	x := termed(1, batch(5))
	says(t, sends(0, 1, 1, 1, 1, 0, x), sends(0, 2, 1, 1, 1, 0, x))(o.Step(forwards(2, 0, x.Entry)))
	same(t, o.terms(), "0 [1 1]")
	says(t, sends(0, 1, 1, 2, 1, 0, termed(1, api.Entry{})), sends(0, 2, 1, 2, 1, 0, termed(1, api.Entry{})))(o.Step(forwards(1, 0, api.Entry{})))
	o.refuses(t, api.ErrMessage)(o.Step(forwards(1, 0, api.Entry{Kind: 9})))
	says(t, tells(0, 2, 2, false, 3))(o.Step(sends(2, 0, 2, 9, 0, 0)))
	o.refuses(t, api.OK)(o.Step(forwards(1, 0, batch(5)))) // it is not handed on
}
