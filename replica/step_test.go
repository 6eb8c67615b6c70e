package replica_test

import (
	"fmt"
	"math"
	"testing"

	"trivet/api"
	"trivet/flash"
)

// kinds are messages of each kind from 0 to 1, of a term.
func kinds(term int64) []api.Msg {
	return []api.Msg{
		asks(0, 1, term, 9, 9), votes(0, 1, term, true), votes(0, 1, term, false), sends(0, 1, term, 0, 0, 0, list(0, 1)...),
		tells(0, 1, term, true, 0), tells(0, 1, term, false, 0), hands(0, 1, term, 9, 9, 0, 1, "x"), forwards(0, 1, batch(3)),
	}
}

// P10.4: messages that are for another one, from itself, from one that there is not, and such as record refuses.
func TestStepMessages(t *testing.T) {
	for _, at := range []func(o *one){func(o *one) {}, func(o *one) { o.stands(t, 1) }, func(o *one) { o.leads(t, 3, 1) }} {
		o := begun(t, 3, 1, hasVote(3, -1))
		at(o)
		for _, m := range append(kinds(9), kinds(2)...) {
			for _, to := range []int{math.MinInt, -1, 0, 2, 3, 4, 5, math.MaxInt} {
				x := m
				x.To = to
				o.refuses(t, api.ErrMessage)(o.Step(x))
			}
			for _, from := range []int{math.MinInt, -1, 1, 3, 4, 5, math.MaxInt} {
				x := m
				x.From = from
				o.refuses(t, api.ErrMessage)(o.Step(x))
			}
			for _, x := range spoilt(m) {
				o.refuses(t, api.ErrMessage)(o.Step(x))
			}
		}
	}
}

// spoilt are a message of each way in which it may not be.
func spoilt(m api.Msg) []api.Msg {
	var l []api.Msg
	add := func(do func(m *api.Msg)) {
		x := m
		do(&x)
		l = append(l, x)
	}
	add(func(m *api.Msg) { m.Kind = 0 })
	add(func(m *api.Msg) { m.Kind = 7 })
	add(func(m *api.Msg) { m.Term = -1 })
	add(func(m *api.Msg) { m.Term = top + 1 })
	add(func(m *api.Msg) { m.Slot = -1 })
	add(func(m *api.Msg) { m.Slot = top + 1 })
	add(func(m *api.Msg) { m.Last = -1 })
	add(func(m *api.Msg) { m.Commit = -1 })
	if m.Kind == api.MsForward {
		add(func(m *api.Msg) { m.Term = 1 })
	} else {
		add(func(m *api.Msg) { m.Entry = batch(1) })
	}
	if m.Kind != api.MsPart {
		add(func(m *api.Msg) { m.Part.Many = 1 })
	} else {
		add(func(m *api.Msg) { m.Part.Many = 0 })
		add(func(m *api.Msg) { m.Part.Index = 1 })
		add(func(m *api.Msg) { m.Part.Data = make([]byte, api.MaxData+1) })
	}
	if m.Kind == api.MsAppend {
		add(func(m *api.Msg) { m.List = []api.Termed{{Term: -1}} })
		add(func(m *api.Msg) { m.List = make([]api.Termed, api.MaxList+1) })
	} else {
		add(func(m *api.Msg) { m.List = []api.Termed{{}} })
	}
	return l
}

// P10.4: groups of each size hear all of their others.
func TestStepFromEach(t *testing.T) {
	for n := 1; n <= api.MaxReplicas; n++ {
		for self := range n {
			for from := range api.MaxReplicas {
				o := begun(t, n, self)
				m := tells(from, self, 4, true, 0)
				if from == self || from >= n {
					o.refuses(t, api.ErrMessage)(o.Step(m))
					continue
				}
				says(t)(o.Step(m))
				same(t, o.Term(), 4)
			}
		}
	}
}

// P10.4: what is of a term that is over is answered with the later one, and changes nothing.
func TestStepBelow(t *testing.T) {
	for name, at := range map[string]func(o *one){"follows": func(o *one) {}, "stands": func(o *one) { o.stands(t, 1) }, "leads": func(o *one) { o.leads(t, 3, 1) }, "follows one": func(o *one) { o.Step(sends(2, 1, 3, 0, 0, 0)) }} {
		for _, back := range []int64{1, 2, 3} {
			o := begun(t, 3, 1, hasVote(3, -1))
			at(o)
			term := o.Term()
			for _, m := range kinds(term - back) {
				was, f := o.seen(), o.f.Clone()
				var want []api.Msg
				switch m.Kind {
				case api.MsVote:
					want = []api.Msg{votes(1, 0, term, false)}
				case api.MsAppend, api.MsPart:
					want = []api.Msg{tells(1, 0, term, false, 0)}
				case api.MsForward:
					continue
				}
				says(t, want...)(o.Step(m))
				if o.seen() != was || !flash.Same(o.f, f) {
					t.Error(name, m)
				}
			}
		}
	}
}

// P10.4: of a term above its own it hears, whoever it is: it follows nobody there, and its vote is free.
func TestStepAbove(t *testing.T) {
	for name, at := range map[string]func(o *one){"follows": func(o *one) {}, "stands": func(o *one) { o.stands(t, 1) }, "leads": func(o *one) { o.leads(t, 3, 1) }, "follows one": func(o *one) { o.Step(sends(2, 1, 3, 0, 0, 0)) }} {
		for _, on := range []int64{1, 2, 90} {
			for _, m := range kinds(0) {
				o := begun(t, 3, 1, hasVote(3, 2))
				at(o)
				term := o.Term() + on
				length := o.k.Length()
				leader, vote := -1, -1
				var want []api.Msg
				switch m.Kind {
				case api.MsForward:
					continue
				case api.MsVote:
					want, vote = []api.Msg{votes(1, 0, term, true)}, 0
				case api.MsAppend:
					want, leader, length = []api.Msg{tells(1, 0, term, true, 1)}, 0, 1
				case api.MsPart:
					want, leader, length = []api.Msg{tells(1, 0, term, true, 9)}, 0, 9
				}
				m.Term = term
				says(t, want...)(o.Step(m))
				o.known(t, api.RoleFollow, leader)
				same(t, o.Term(), term)
				same(t, o.k.Term(), term)
				who, voted := o.k.Voted()
				if voted != (vote >= 0) || voted && who != vote {
					t.Error(name, m, who, voted)
				}
				same(t, o.k.Length(), length)
				says(t)(o.Step(tells(0, 1, term, false, 0))) // it has no book
			}
		}
	}
	o := begun(t, 3, 1)
	says(t, tells(1, 0, top, true, 0))(o.Step(sends(0, 1, top, 0, 0, 0)))
	same(t, o.Term(), top)
}

// Words (it hears of a term): where the keeper has no room for it, the message is passed over.
func TestStepAboveWithoutRoom(t *testing.T) {
	for name, at := range map[string]func(o *one){
		"follows": func(o *one) {}, "follows one": func(o *one) { o.Step(sends(2, 1, o.Term(), 0, 0, 0)) },
		"stands": func(o *one) { o.stands(t, 1) }, "leads": func(o *one) { o.leads(t, 3, 1) },
	} {
		f, k := kept(t, 8)
		switch name {
		case "stands", "leads":
			noRoomBut(t, k, 1)
		default:
			noRoom(t, k)
		}
		o := over(t, f, k, 3, 1)
		at(o)
		same(t, k.Room(), 0)
		for _, m := range kinds(o.Term() + 1) {
			if m.Kind != api.MsForward {
				o.refuses(t, api.OK)(o.Step(m))
			}
		}
	}
}

// P10.4, MsVote: the vote is given to none whose log is behind, and once a term.
func TestStepVote(t *testing.T) {
	for _, x := range []struct {
		slot, last int64
		yes        bool
	}{{0, 0, false}, {3, 3, false}, {2, 4, false}, {9, 3, false}, {3, 4, true}, {4, 4, true}, {1, 5, true}, {3, 5, true}, {0, 5, true}, {top, top, true}, {top, 3, false}} {
		for on := range int64(2) {
			o := begun(t, 3, 1, hasVote(6, -1), hasLog(2, 2, 4))
			says(t, votes(1, 2, 6+on, x.yes))(o.Step(asks(2, 1, 6+on, x.slot, x.last)))
			who, voted := o.k.Voted()
			if voted != x.yes || voted && who != 2 {
				t.Error(x, who, voted)
			}
			o.known(t, api.RoleFollow, -1)
			same(t, o.k.Term(), 6+on)
			// twice from the same one, and from two
			says(t, votes(1, 2, 6+on, x.yes))(o.Step(asks(2, 1, 6+on, x.slot, x.last)))
			says(t, votes(1, 0, 6+on, !x.yes))(o.Step(asks(0, 1, 6+on, 9, 9)))
			says(t, votes(1, 2, 6+on, x.yes))(o.Step(asks(2, 1, 6+on, x.slot, x.last)))
			// it outlives a crash
			o = opened(t, o.f, 3, 1)
			says(t, votes(1, 0, 6+on, !x.yes))(o.Step(asks(0, 1, 6+on, 9, 9)))
			says(t, votes(1, 2, 6+on, x.yes))(o.Step(asks(2, 1, 6+on, x.slot, x.last)))
		}
	}
}

// P10.4, MsVote: of a log whose entries are all in the checkpoint.
func TestStepVoteOverState(t *testing.T) {
	o := begun(t, 3, 1, hasLog(2, 4), hasChosen(2), hasState(2, ""))
	says(t, votes(1, 0, 7, false))(o.Step(asks(0, 1, 7, 1, 4)))
	says(t, votes(1, 0, 7, false))(o.Step(asks(0, 1, 7, 9, 3)))
	says(t, votes(1, 0, 7, true))(o.Step(asks(0, 1, 7, 2, 4)))
}

// P10.4, MsVote: the leader that is known stays known, whoever gets the vote of the term.
func TestStepVoteBesideALeader(t *testing.T) {
	o := begun(t, 3, 1, hasVote(6, -1))
	o.Step(sends(0, 1, 6, 0, 0, 0))
	says(t, votes(1, 2, 6, true))(o.Step(asks(2, 1, 6, 0, 0)))
	o.known(t, api.RoleFollow, 0)
	// who stands or leads has its own vote
	o.stands(t, 1)
	says(t, votes(1, 2, 7, false))(o.Step(asks(2, 1, 7, 9, 9)))
	o.Step(votes(0, 1, 7, true))
	says(t, votes(1, 2, 7, false))(o.Step(asks(2, 1, 7, 9, 9)))
	o.known(t, api.RoleLead, 1)
}

// P10.4, MsVote: where the keeper has no room for the vote, nothing is answered, and the wait goes on.
func TestStepVoteWithoutRoom(t *testing.T) {
	f, k := kept(t, 8)
	term := noRoom(t, k)
	o := over(t, f, k, 3, 1)
	o.ticks(t, 5)
	o.refuses(t, api.OK)(o.Step(asks(0, 1, term, 9, 9)))
	o.refuses(t, api.OK)(o.Step(asks(2, 1, term, 9, 9)))
	o.refuses(t, api.ErrFull)(o.Tick())
	// one that is refused for its log is answered
	f, k = kept(t, 8, hasLog(0))
	term = noRoom(t, k)
	o = over(t, f, k, 3, 1)
	says(t, votes(1, 0, term, false))(o.Step(asks(0, 1, term, 0, 0)))
}

// P10.4, MsVoted: it leads with a majority's votes, by just the one that makes it.
func TestStepVoted(t *testing.T) {
	for n := 2; n <= api.MaxReplicas; n++ {
		for self := range n {
			o := begun(t, n, self, hasLog(0, 0))
			o.stands(t, self)
			has := 1
			for i := range n {
				if i == self {
					continue
				}
				was := o.seen()
				for range 2 { // a no, one of another term, one that comes twice
					says(t)(o.Step(votes(i, self, 1, false)))
					says(t)(o.Step(votes(i, self, 0, true)))
					same(t, o.seen(), was)
				}
				has++
				if has != n/2+1 {
					says(t)(o.Step(votes(i, self, 1, true)))
					says(t)(o.Step(votes(i, self, 1, true)))
					same(t, o.seen(), was)
					continue
				}
				var want []api.Msg
				for j := range n {
					if j != self {
						want = append(want, sends(self, j, 1, 2, 0, 0, termed(1, api.Entry{})))
					}
				}
				says(t, want...)(o.Step(votes(i, self, 1, true)))
				o.known(t, api.RoleLead, self)
				same(t, o.terms(), "0 [0 0 1]")
				same(t, o.Upto(), 0)
				was = o.seen()
				says(t)(o.Step(votes(i, self, 1, true)))
				same(t, o.seen(), was)
			}
			same(t, o.k.Length(), 3)
		}
	}
}

// P10.4, MsVoted: one that comes late, to one that does not stand, or stands in a later term, counts for nothing.
func TestStepVotedLate(t *testing.T) {
	o := begun(t, 3, 0)
	o.refuses(t, api.OK)(o.Step(votes(1, 0, 0, true)))
	o.stands(t, 0)
	o.stands(t, 0)
	o.refuses(t, api.OK)(o.Step(votes(1, 0, 1, true)))
	says(t)(o.Step(votes(1, 0, 3, true))) // of a term in which it has not stood: it hears of it
	o.known(t, api.RoleFollow, -1)
	same(t, o.Term(), 3)
	o.refuses(t, api.OK)(o.Step(votes(2, 0, 3, true)))
	// behind a crash
	o.stands(t, 0)
	o = opened(t, o.f, 3, 0)
	o.refuses(t, api.OK)(o.Step(votes(1, 0, 4, true)))
	o.known(t, api.RoleFollow, -1)
	// as the words are, votes of the term count also behind another one's entries
	o.stands(t, 0)
	says(t, tells(0, 2, 5, true, 0))(o.Step(sends(2, 0, 5, 0, 0, 0)))
	o.known(t, api.RoleFollow, 2)
	says(t, sends(0, 1, 5, 0, 0, 0, termed(5, api.Entry{})), sends(0, 2, 5, 0, 0, 0, termed(5, api.Entry{})))(o.Step(votes(1, 0, 5, true)))
}

// follower has the log 3 to 9 behind a checkpoint, of which 3 and 4 are chosen, in the term 7.
func follower(t testing.TB) *one {
	return begun(t, 3, 1, hasVote(7, -1), hasLog(1, 1, 2, 2, 2, 4, 4, 4, 6, 6), hasChosen(5), hasState(3, "three"))
}

// P10.4, MsAppend: where the logs are not alike, no entry is taken, and the place to try is told.
func TestStepAppendRefused(t *testing.T) {
	for _, x := range []struct{ slot, last, try int64 }{
		{top, 6, 10}, {12, 6, 10}, {11, 6, 10}, {11, 0, 10}, // above the log
		{10, 7, 8}, {10, 0, 8}, {10, 4, 8}, // the 6s are 8 and 9
		{9, 4, 8}, {9, 0, 8}, // s is 8, and the slot ahead of that has another term
		{8, 6, 5}, {8, 2, 5}, // the 4s are 5 to 7
		{7, 6, 5}, {7, 0, 5}, {6, 6, 5}, {6, 0, 5},
		{5, 4, 4}, {5, 0, 4}, {4, 4, 3}, // not below what is chosen, but one ahead of what was tried
		{3, 4, 2}, {3, 1, 2}, // ahead of the log the checkpoint's Last is known
	} {
		o := follower(t)
		was := o.terms()
		says(t, tells(1, 2, 7, false, x.try))(o.Step(sends(2, 1, 7, x.slot, x.last, 9, list(x.slot, 7, 7)[:min(2, top-x.slot)]...)))
		o.known(t, api.RoleFollow, 2)
		same(t, o.terms(), was)
		same(t, o.Upto(), 5)
	}
}

// P10.4, MsAppend: the place to try of a log without a checkpoint, of one term alone, and of one of which nothing is chosen.
func TestStepAppendPlaces(t *testing.T) {
	for _, x := range []struct {
		terms             []int64
		chosen, slot, try int64
	}{
		{[]int64{0}, 0, 1, 0}, {[]int64{3}, 0, 1, 0}, {[]int64{3, 3, 3}, 0, 3, 0}, {[]int64{3, 3, 3}, 0, 2, 0}, {[]int64{3, 3, 3}, 1, 3, 1}, {[]int64{3, 3, 3}, 2, 3, 2}, {[]int64{3, 3, 3}, 3, 3, 2},
		{[]int64{3, 3, 3}, 3, 1, 0}, {[]int64{0, 0, 3}, 0, 3, 2}, {[]int64{0, 3, 3}, 0, 3, 1}, {[]int64{3, 3, 5, 3, 3}, 0, 5, 3}, {repeat(2, 40), 0, 40, 0}, {repeat(2, 40), 17, 40, 17},
	} {
		o := begun(t, 3, 1, hasVote(7, -1), hasLog(x.terms...), hasChosen(x.chosen))
		was := o.seen()
		says(t, tells(1, 0, 7, false, x.try))(o.Step(sends(0, 1, 7, x.slot, 6, top)))
		if b, _ := o.Leader(); b.Replica != 0 || o.Upto() != x.chosen {
			t.Error(x, was)
		}
	}
}

// P10.4, MsAppend: which entries are taken, up to where they are chosen, and what is answered.
func TestStepAppendTaken(t *testing.T) {
	for _, x := range []struct {
		slot, last int64
		commit     int64
		terms      []int64
		log        string
		upto       int64
		slotOf     int64
	}{
		{10, 6, 0, nil, "3 [2 2 4 4 4 6 6]", 5, 10},                                // nothing to be taken
		{10, 6, 5, nil, "3 [2 2 4 4 4 6 6]", 5, 10},                                // what is chosen already
		{10, 6, 6, nil, "3 [2 2 4 4 4 6 6]", 6, 10},                                // and more
		{10, 6, 10, nil, "3 [2 2 4 4 4 6 6]", 10, 10},                              //
		{10, 6, 11, nil, "3 [2 2 4 4 4 6 6]", 10, 10},                              // what it lacks may be chosen
		{10, 6, top, nil, "3 [2 2 4 4 4 6 6]", 10, 10},                             //
		{7, 4, top, nil, "3 [2 2 4 4 4 6 6]", 7, 7},                                // what stands behind them may be others' still
		{5, 2, 10, nil, "3 [2 2 4 4 4 6 6]", 5, 5},                                 //
		{4, 2, 10, nil, "3 [2 2 4 4 4 6 6]", 5, 4},                                 //
		{3, 2, 10, nil, "3 [2 2 4 4 4 6 6]", 5, 3},                                 // at the log's beginning
		{10, 6, 5, []int64{7}, "3 [2 2 4 4 4 6 6 7]", 5, 11},                       //
		{10, 6, 11, []int64{6, 7}, "3 [2 2 4 4 4 6 6 6 7]", 11, 12},                // chosen up to within them
		{10, 6, 12, []int64{6, 7}, "3 [2 2 4 4 4 6 6 6 7]", 12, 12},                // up to behind them
		{10, 6, 13, []int64{6, 7}, "3 [2 2 4 4 4 6 6 6 7]", 12, 12},                //
		{8, 4, 9, []int64{6}, "3 [2 2 4 4 4 6 6]", 9, 9},                           // one that stands already: nothing goes
		{8, 4, top, []int64{6}, "3 [2 2 4 4 4 6 6]", 9, 9},                         //
		{8, 4, 0, []int64{6, 6, 6}, "3 [2 2 4 4 4 6 6 6]", 5, 11},                  // two that stand, one more
		{8, 4, 0, []int64{7}, "3 [2 2 4 4 4 7]", 5, 9},                             // another one: what stood behind it goes
		{8, 4, 9, []int64{5, 7}, "3 [2 2 4 4 4 5 7]", 9, 10},                       //
		{5, 2, 6, []int64{4, 4, 7}, "3 [2 2 4 4 7]", 6, 8},                         // others from within on
		{5, 2, 6, []int64{3, 4, 4, 6, 6}, "3 [2 2 3 4 4 6 6]", 6, 10},              //
		{4, 2, 6, []int64{2, 4}, "3 [2 2 4 4 4 6 6]", 6, 6},                        // over what is chosen
		{3, 2, 6, []int64{2, 2, 4, 4, 4, 6, 6, 7}, "3 [2 2 4 4 4 6 6 7]", 6, 11},   // all of it
		{2, 0, 7, []int64{2, 2, 2, 4, 4, 7}, "3 [2 2 4 4 7]", 7, 8},                // below First: one is left out, whatever its Last is
		{1, 9, 6, []int64{9, 9, 2, 2, 4, 7}, "3 [2 2 4 7]", 6, 7},                  // two
		{0, 0, top, []int64{1, 1, 2, 2, 2, 4, 4, 4, 6}, "3 [2 2 4 4 4 6 6]", 9, 9}, // three
		{0, 5, 4, []int64{9, 9, 9, 2}, "3 [2 2 4 4 4 6 6]", 5, 4},                  //
		{0, 5, 4, []int64{9, 9, 9}, "3 [2 2 4 4 4 6 6]", 5, 3},                     // just all
		{0, 5, top, []int64{9, 9}, "3 [2 2 4 4 4 6 6]", 5, 2},                      // all of fewer
		{1, 5, top, []int64{9}, "3 [2 2 4 4 4 6 6]", 5, 2},                         //
		{2, 5, top, []int64{9}, "3 [2 2 4 4 4 6 6]", 5, 3},                         //
		{2, 1, top, nil, "3 [2 2 4 4 4 6 6]", 5, 2},                                // of none
		{0, 0, 0, nil, "3 [2 2 4 4 4 6 6]", 5, 0},                                  //
	} {
		o := follower(t)
		says(t, tells(1, 2, 7, true, x.slotOf))(o.Step(sends(2, 1, 7, x.slot, x.last, x.commit, list(x.slot, x.terms...)...)))
		o.known(t, api.RoleFollow, 2)
		if o.terms() != x.log || o.Upto() != x.upto {
			t.Errorf("%+v: %s, %d", x, o.terms(), o.Upto())
		}
		w := opened(t, o.f.Clone(), 3, 1)
		same(t, w.terms(), x.log)
	}
}

// P10.4, MsAppend: the entries that are taken are those that are told.
func TestStepAppendTold(t *testing.T) {
	o := begun(t, 3, 1)
	says(t, tells(1, 0, 4, true, 3))(o.Step(sends(0, 1, 4, 0, 99, 2, termed(2, batch(5)), termed(2, api.Entry{}), termed(4, wide(6)))))
	o.next(t, 0, batch(5))
	o.next(t, 1, api.Entry{})
	o.nothing(t)
	says(t, tells(1, 0, 4, true, 3))(o.Step(sends(0, 1, 4, 3, 4, 3)))
	o.next(t, 2, wide(6))
	o.nothing(t)
}

// P10.4, MsAppend: what clashes with what is chosen is not taken, nor what the keeper has no room for, nor what is behind the last slot: nothing is answered.
func TestStepAppendNotTaken(t *testing.T) {
	for _, m := range []api.Msg{
		sends(2, 1, 7, 3, 2, 9, list(3, 3)...), sends(2, 1, 7, 3, 2, 9, list(3, 2, 3)...), sends(2, 1, 7, 4, 2, 9, list(4, 4, 4)...), sends(2, 1, 7, 0, 0, 9, list(0, 1, 1, 1, 1)...),
		sends(2, 1, 7, 2, 0, 9, list(2, 2, 2, 7)...),
	} {
		o := follower(t)
		was := fmt.Sprint(o.terms(), o.Upto())
		says(t)(o.Step(m))
		same(t, fmt.Sprint(o.terms(), o.Upto()), was)
		o.known(t, api.RoleFollow, 2)
		o.refuses(t, api.OK)(o.Step(m))
	}
	f, k := kept(t, 8, hasLog(0, 0))
	noRoomBut(t, k, 1)
	o := over(t, f, k, 3, 1)
	term := o.Term()
	says(t, tells(1, 2, term, true, 1))(o.Step(sends(2, 1, term, 1, 0, 1)))
	o.refuses(t, api.OK)(o.Step(sends(2, 1, term, 2, 0, 2, list(2, 0)...)))
	says(t, tells(1, 2, term, true, 2))(o.Step(sends(2, 1, term, 1, 0, 2, list(1, 0)...))) // it stands there
	same(t, o.Upto(), 2)
	f, k = kept(t, 8)
	must(t, k.Install(api.Saved{Slot: top - 1, Last: 3}))
	o = over(t, f, k, 3, 1)
	says(t)(o.Step(sends(2, 1, 4, top-1, 3, top, termed(4, api.Entry{}), termed(4, api.Entry{}))))
	same(t, k.Length(), top-1)
	says(t, tells(1, 2, 4, true, top))(o.Step(sends(2, 1, 4, top-1, 3, top, termed(4, api.Entry{}))))
	same(t, o.Upto(), top)
}

// P10.4, MsAppend, MsPart: one that leads takes none of its own term; one that stands follows by it.
func TestStepAppendToALeader(t *testing.T) {
	o := begun(t, 3, 1, hasLog(0, 0))
	o.stands(t, 1)
	says(t, tells(1, 0, 1, false, 2))(o.Step(sends(0, 1, 1, 5, 0, 0)))
	o.known(t, api.RoleFollow, 0)
	o.leads(t, 3, 1)
	for _, m := range []api.Msg{sends(0, 1, 2, 0, 0, 2), sends(0, 1, 2, 2, 0, 2, list(2, 9)...), sends(0, 1, 2, 9, 9, 9), hands(0, 1, 2, 9, 9, 0, 1, "x"), hands(0, 1, 2, 0, 0, 0, 1, "")} {
		o.refuses(t, api.OK)(o.Step(m))
	}
	o.known(t, api.RoleLead, 1)
	// of another one in the same term, as only a wrong one can say
	o = begun(t, 3, 1)
	o.Step(sends(0, 1, 1, 0, 0, 0))
	o.Step(sends(2, 1, 1, 0, 0, 0))
	o.known(t, api.RoleFollow, 2)
}

// P10.4, MsAppended: of one that does not lead nothing comes.
func TestStepAppendedToAFollower(t *testing.T) {
	o := follower(t)
	for range 2 {
		o.refuses(t, api.OK)(o.Step(tells(0, 1, 7, true, 9)))
		o.refuses(t, api.OK)(o.Step(tells(0, 1, 7, false, 9)))
		o.stands(t, 1)
		o.refuses(t, api.OK)(o.Step(tells(0, 1, 8, true, 9)))
		o.refuses(t, api.OK)(o.Step(tells(0, 1, 8, false, 9)))
		o = follower(t)
	}
}

// leader leads the term 8 with the log 3 to 10 behind a checkpoint, the others being known to be alike up to 0.
func leader(t testing.TB) *one {
	o := begun(t, 3, 1, hasVote(7, -1), hasLog(1, 1, 2, 2, 2, 4, 4, 4, 6, 6), hasChosen(5), hasState(3, "three"))
	none := termed(8, api.Entry{})
	o.stands(t, 1)
	says(t, sends(1, 0, 8, 10, 6, 5, none), sends(1, 2, 8, 10, 6, 5, none))(o.Step(votes(0, 1, 8, true)))
	return o
}

// P10.4, MsAppended: what is told takes the book on, what is not agreed of is sent anew, and what a majority has is chosen, if it is of the leader's term.
func TestStepAppended(t *testing.T) {
	all := append(list(3, 2, 2, 4, 4, 4, 6, 6), termed(8, api.Entry{}))
	from := func(slot, last, upto int64) api.Msg { return sends(1, 2, 8, slot, last, upto, all[slot-3:]...) }
	for _, x := range []struct {
		yes  bool
		slot int64
		want []api.Msg
		upto int64
	}{
		{false, 11, []api.Msg{from(11, 8, 5)}, 5}, // it may have come late
		{false, 12, []api.Msg{from(11, 8, 5)}, 5},
		{false, top, []api.Msg{from(11, 8, 5)}, 5},
		{false, 10, []api.Msg{from(10, 6, 5)}, 5},
		{false, 8, []api.Msg{from(8, 4, 5)}, 5},
		{false, 4, []api.Msg{from(4, 2, 5)}, 5},
		{false, 3, []api.Msg{from(3, 2, 5)}, 5},
		{false, 2, []api.Msg{hands(1, 2, 8, 3, 2, 0, 1, "three")}, 5},
		{false, 0, []api.Msg{hands(1, 2, 8, 3, 2, 0, 1, "three")}, 5},
		{true, 0, nil, 5}, // it was sent all
		{true, 3, nil, 5},
		{true, 5, nil, 5},
		{true, 6, nil, 5}, // a majority has it, but it is of another term
		{true, 9, nil, 5},
		{true, 10, nil, 5},
		{true, 11, nil, 11}, // with one of its own all is chosen
		{true, 12, nil, 5},  // what can't be
		{true, top, nil, 5},
	} {
		o := leader(t)
		says(t, x.want...)(o.Step(tells(2, 1, 8, x.yes, x.slot)))
		if o.Upto() != x.upto {
			t.Error(x, o.Upto())
		}
		o.known(t, api.RoleLead, 1)
		same(t, o.k.Length(), 11)
	}
}

// P10.4, MsAppended: a no that comes late takes nothing back, and is answered from what is known on.
func TestStepAppendedLate(t *testing.T) {
	o := leader(t)
	says(t)(o.Step(tells(2, 1, 8, true, 9)))
	says(t, sends(1, 2, 8, 9, 6, 5, termed(6, list(9, 6)[0].Entry), termed(8, api.Entry{})))(o.Step(tells(2, 1, 8, false, 4)))
	says(t)(o.Step(tells(2, 1, 8, true, 11)))
	same(t, o.Upto(), 11)
	says(t, sends(1, 2, 8, 11, 8, 11))(o.Step(tells(2, 1, 8, false, 4)))
	says(t)(o.Step(tells(2, 1, 8, true, 4)))
	says(t)(o.Step(tells(2, 1, 8, true, 12))) // what can't be answers nothing
	same(t, o.Upto(), 11)
	o = leader(t)
	says(t, hands(1, 0, 8, 3, 2, 0, 1, "three"))(o.Step(tells(0, 1, 8, false, 0)))
	o.refuses(t, api.OK)(o.Step(tells(0, 1, 8, true, 12))) // also where there is more to send
	says(t, hands(1, 0, 8, 3, 2, 0, 1, "three"))(o.Step(tells(0, 1, 8, true, 0)))
}

// P10.4, MsAppended: with more to send it is sent; MaxTell entries are told at once.
func TestStepAppendedMore(t *testing.T) {
	for _, many := range []int{62, 63, 64, 65, 127, 128, 150} { // and the leader's first one
		f, k := kept(t, 128, hasLog(repeat(0, many)...))
		o := over(t, f, k, 3, 0)
		o.leads(t, 3, 0)
		all := append(list(0, repeat(0, many)...), termed(1, api.Entry{}))
		length, slot := int64(len(all)), int64(0)
		l, e := o.Step(tells(1, 0, 1, false, 0))
		for {
			end := min(slot+64, length)
			last := int64(0)
			if slot > 0 {
				last = all[slot-1].Term
			}
			says(t, sends(0, 1, 1, slot, last, 0, all[slot:end]...))(l, e)
			slot = end
			l, e = o.Step(tells(1, 0, 1, true, slot))
			if slot == length {
				break
			}
			same(t, o.Upto(), 0)
		}
		says(t)(l, e)
		same(t, o.Upto(), length)
		says(t, sends(0, 1, 1, length, 1, length), sends(0, 2, 1, length, 1, length))(o.Tick())
	}
}

// P10.2: a tick sends on from where the last one was sent to, without waiting for its answer.
func TestTickSendsOn(t *testing.T) {
	f, k := kept(t, 128, hasLog(repeat(0, 150)...))
	o := over(t, f, k, 3, 0)
	o.leads(t, 3, 0)
	all := append(list(0, repeat(0, 150)...), termed(1, api.Entry{}))
	says(t, sends(0, 1, 1, 10, 0, 0, all[10:74]...))(o.Step(tells(1, 0, 1, false, 10)))
	says(t, sends(0, 1, 1, 74, 0, 0, all[74:138]...), sends(0, 2, 1, 151, 1, 0))(o.Tick())
	says(t, sends(0, 1, 1, 138, 0, 0, all[138:]...), sends(0, 2, 1, 151, 1, 0))(o.Tick())
	says(t, sends(0, 1, 1, 151, 1, 0), sends(0, 2, 1, 151, 1, 0))(o.Tick())
	says(t)(o.Step(tells(1, 0, 1, true, 74)))
	says(t, sends(0, 1, 1, 74, 0, 0, all[74:138]...))(o.Step(tells(1, 0, 1, false, 10)))
	says(t, sends(0, 1, 1, 138, 0, 0, all[138:]...))(o.Step(tells(1, 0, 1, true, 80)))
}

// Words (it agrees): in groups of each size what is chosen is what more than half have.
func TestStepAppendedMajority(t *testing.T) {
	for n := 2; n <= api.MaxReplicas; n++ {
		o := begun(t, n, 0)
		o.leads(t, n, 0)
		o.Propose(batch(1))
		has := 1
		for i := 1; i < n; i++ {
			says(t)(o.Step(tells(i, 0, 1, true, 2)))
			says(t)(o.Step(tells(i, 0, 1, true, 2)))
			has++
			if 2*has > n {
				same(t, o.Upto(), 2)
			} else {
				same(t, o.Upto(), 0)
			}
		}
	}
}
