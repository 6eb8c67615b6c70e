package vote_test

import (
	"math"
	"slices"
	"testing"

	"trivet/api"
	"trivet/vote"
)

const maxTime = int64(api.MaxTime)

// seen is all that a vote tells of itself.
type seen struct {
	term     int64
	voted    int // -1: to nobody
	standing bool
	won      bool
	votes    []int
}

func (s seen) same(x seen) bool {
	return s.term == x.term && s.voted == x.voted && s.standing == x.standing && s.won == x.won && slices.Equal(s.votes, x.votes)
}

func look(t *testing.T, v *vote.Vote) seen {
	t.Helper()
	who, ok := v.Voted()
	if !ok {
		if who != 0 {
			t.Error("Voted tells", who, "beside false")
		}
		who = -1
	}
	return seen{v.Term(), who, v.Standing(), v.Won(), slices.Collect(v.Votes())}
}

// is fails the test, unless v tells just what is wanted.
func is(t *testing.T, v *vote.Vote, want seen) {
	t.Helper()
	if s := look(t, v); !s.same(want) {
		t.Errorf("%+v, not %+v", s, want)
	}
}

// idle is one that does not stand.
func idle(term int64, voted int) seen { return seen{term: term, voted: voted} }

func made(t *testing.T, n, self int, term int64, voted int) *vote.Vote {
	t.Helper()
	v, e := vote.New(api.Conf{N: n, Self: self}, term, voted)
	if v == nil || e != api.OK {
		t.Fatal("New:", v, e)
	}
	return v
}

// stands is one that stands in a term of a group.
func stands(t *testing.T, n, self int, term int64) *vote.Vote {
	t.Helper()
	v := made(t, n, self, term-1, -1)
	same(t, v.Stand(), api.OK)
	return v
}

func same[T comparable](t *testing.T, got, want T) {
	t.Helper()
	if got != want {
		t.Error(got, "not", want)
	}
}

// The chapter's examples.
func TestExamples(t *testing.T) {
	v := made(t, 3, 0, 4, -1)
	same(t, v.Stand(), api.OK)
	same(t, v.Term(), 5)
	same(t, v.Count(1, 5, true), true)
	same(t, v.Won(), true)
	same(t, v.Grant(api.Claim{Who: 2, Term: 5}, 0, 0), false)
	same(t, v.Grant(api.Claim{Who: 2, Term: 6, Length: 9, Last: 5}, 9, 5), true)
	is(t, v, idle(6, 2))
}

// P7.1: of what New makes one, and of what it does not.
func TestNew(t *testing.T) {
	type args struct {
		n, self int
		term    int64
		voted   int
	}
	for _, x := range []struct {
		args
		e api.Errno
	}{
		{args{0, 0, 0, -1}, api.ErrArg},
		{args{-1, 0, 0, -1}, api.ErrArg},
		{args{math.MinInt, 0, 0, -1}, api.ErrArg},
		{args{1, 0, 0, -1}, api.OK},
		{args{api.MaxReplicas, 0, 0, -1}, api.OK},
		{args{api.MaxReplicas + 1, 0, 0, -1}, api.ErrArg},
		{args{math.MaxInt, 0, 0, -1}, api.ErrArg},
		{args{3, -1, 0, -1}, api.ErrArg},
		{args{3, math.MinInt, 0, -1}, api.ErrArg},
		{args{3, 0, 0, -1}, api.OK},
		{args{3, 2, 0, -1}, api.OK},
		{args{3, 3, 0, -1}, api.ErrArg},
		{args{3, math.MaxInt, 0, -1}, api.ErrArg},
		{args{1, 1, 0, -1}, api.ErrArg},
		{args{5, 4, 0, -1}, api.OK},
		{args{5, 5, 0, -1}, api.ErrArg},
		{args{3, 1, -1, -1}, api.ErrArg},
		{args{3, 1, math.MinInt64, -1}, api.ErrArg},
		{args{3, 1, 0, -1}, api.OK},
		{args{3, 1, maxTime, -1}, api.OK},
		{args{3, 1, maxTime + 1, -1}, api.ErrArg},
		{args{3, 1, math.MaxInt64, -1}, api.ErrArg},
		{args{3, 1, 7, -2}, api.ErrArg},
		{args{3, 1, 7, math.MinInt}, api.ErrArg},
		{args{3, 1, 7, -1}, api.OK},
		{args{3, 1, 7, 0}, api.OK},
		{args{3, 1, 7, 1}, api.OK}, // its own vote, and yet it does not stand
		{args{3, 1, 7, 2}, api.OK},
		{args{3, 1, 7, 3}, api.ErrArg},
		{args{3, 1, 7, math.MaxInt}, api.ErrArg},
		{args{1, 0, 7, 0}, api.OK},
		{args{1, 0, 7, 1}, api.ErrArg},
		{args{5, 0, 7, 4}, api.OK},
		{args{5, 0, 7, 5}, api.ErrArg},
		{args{0, -1, -1, -2}, api.ErrArg},
	} {
		v, e := vote.New(api.Conf{N: x.n, Self: x.self}, x.term, x.voted)
		if e != x.e || (v == nil) != (e != api.OK) {
			t.Error(x.args, v, e)
		} else if e == api.OK {
			is(t, v, idle(x.term, x.voted))
		}
	}
}

// P7.1: Newer goes by Last, then by Length, and by nothing else.
func TestNewer(t *testing.T) {
	edges := []int64{math.MinInt64, -1, 0, 1, 2, maxTime, maxTime + 1, math.MaxInt64}
	for i, last := range edges {
		for j, length := range edges {
			for k, last2 := range edges {
				for l, length2 := range edges {
					want := i > k || i == k && j > l
					a, b := api.Claim{Who: 1, Term: 9, Length: length, Last: last}, api.Claim{Who: 2, Term: 4, Length: length2, Last: last2}
					same(t, vote.Newer(a, b), want)
					a.Who, a.Term, b.Who, b.Term = b.Who, b.Term, a.Who, a.Term
					same(t, vote.Newer(a, b), want)
				}
			}
		}
	}
}

// P7.2: which terms are heard, by one who has voted and by one who stands.
func TestHear(t *testing.T) {
	for _, x := range []struct {
		at, term int64
		heard    bool
	}{
		{5, 4, false}, {5, 0, false}, {5, -1, false}, {5, math.MinInt64, false}, {5, 5, false},
		{5, 6, true}, {5, 7, true}, {5, maxTime - 1, true}, {5, maxTime, true}, {5, maxTime + 1, false}, {5, math.MaxInt64, false},
		{1, 0, false}, {1, 1, false}, {1, 2, true}, {1, -1, false},
		{maxTime - 1, maxTime, true}, {maxTime, maxTime, false}, {maxTime, maxTime - 1, false}, {maxTime, maxTime + 1, false},
	} {
		for _, voted := range []int{-1, 0, 1, 2} {
			v := made(t, 3, 1, x.at, voted)
			same(t, v.Hear(x.term), x.heard)
			if want := idle(x.at, voted); x.heard {
				is(t, v, idle(x.term, -1))
			} else {
				is(t, v, want)
			}
		}
		v := stands(t, 3, 1, x.at)
		same(t, v.Count(0, x.at, true), true)
		same(t, v.Hear(x.term), x.heard)
		if x.heard {
			is(t, v, idle(x.term, -1))
		} else {
			is(t, v, seen{x.at, 1, true, true, []int{0, 1}})
		}
	}
}

// P7.2: a term is heard once; the term 0 is none to hear.
func TestHearAgain(t *testing.T) {
	v := made(t, 3, 1, 0, -1)
	same(t, v.Hear(0), false)
	same(t, v.Hear(3), true)
	same(t, v.Hear(3), false)
	same(t, v.Grant(api.Claim{Who: 0, Term: 3}, 0, 0), true)
	same(t, v.Hear(3), false)
	is(t, v, idle(3, 0))
	same(t, v.Hear(4), true)
	is(t, v, idle(4, -1))
}

// P7.3: who may be voted for. One who may not is not heard either.
func TestGrantWho(t *testing.T) {
	for _, n := range []int{1, 2, 3, 5} {
		for self := range n {
			for _, who := range []int{math.MinInt, -2, -1, 0, 1, 2, 3, 4, 5, 6, math.MaxInt} {
				for _, term := range []int64{7, 8} {
					v := made(t, n, self, 7, -1)
					may := who >= 0 && who < n && who != self
					same(t, v.Grant(api.Claim{Who: who, Term: term, Length: 9, Last: 9}, 0, 0), may)
					if want := idle(7, -1); !may {
						is(t, v, want)
					} else {
						is(t, v, idle(term, who))
					}
				}
			}
		}
	}
}

// P7.3: a claim's term: below, the same, above; one that may not be changes nothing.
func TestGrantTerm(t *testing.T) {
	for _, x := range []struct {
		at, term int64
		want     bool
		behind   int64 // its term then
	}{
		{5, -1, false, 5}, {5, math.MinInt64, false, 5}, {5, 0, false, 5}, {5, 4, false, 5}, {5, 5, true, 5},
		{5, 6, true, 6}, {5, 9, true, 9}, {5, maxTime, true, maxTime}, {5, maxTime + 1, false, 5}, {5, math.MaxInt64, false, 5},
		{0, 0, true, 0}, {0, -1, false, 0}, {0, 1, true, 1},
		{maxTime, maxTime, true, maxTime}, {maxTime, maxTime - 1, false, maxTime}, {maxTime, maxTime + 1, false, maxTime},
	} {
		v := made(t, 3, 1, x.at, -1)
		same(t, v.Grant(api.Claim{Who: 2, Term: x.term, Length: 1, Last: 1}, 1, 1), x.want)
		if x.want {
			is(t, v, idle(x.behind, 2))
		} else {
			is(t, v, idle(x.at, -1))
		}
	}
}

// P7.3: to whom its vote is given already; a later term makes it free again.
func TestGrantGiven(t *testing.T) {
	for _, x := range []struct {
		voted int
		want  bool
	}{{-1, true}, {2, true}, {0, false}, {1, false}, {3, false}} {
		v := made(t, 4, 1, 5, x.voted)
		same(t, v.Grant(api.Claim{Who: 2, Term: 5, Length: 9, Last: 9}, 1, 1), x.want)
		if x.want {
			is(t, v, idle(5, 2))
		} else {
			is(t, v, idle(5, x.voted))
		}
		same(t, v.Grant(api.Claim{Who: 3, Term: 6, Length: 9, Last: 9}, 1, 1), true)
		is(t, v, idle(6, 3))
		same(t, v.Grant(api.Claim{Who: 3, Term: 6, Length: 9, Last: 9}, 1, 1), true)
		same(t, v.Grant(api.Claim{Who: 2, Term: 6, Length: 9, Last: 9}, 1, 1), false)
		is(t, v, idle(6, 3))
	}
}

// P7.3: one who stands has given its vote to itself; a claim of a later term ends that.
func TestGrantStanding(t *testing.T) {
	v := stands(t, 3, 1, 5)
	same(t, v.Count(0, 5, true), true)
	won := seen{5, 1, true, true, []int{0, 1}}
	for _, term := range []int64{-1, 0, 4, 5, maxTime + 1} {
		same(t, v.Grant(api.Claim{Who: 2, Term: term, Length: 9, Last: 9}, 1, 1), false)
		is(t, v, won)
	}
	w := v.Clone()
	same(t, v.Grant(api.Claim{Who: 2, Term: 6, Length: 9, Last: 9}, 1, 1), true)
	is(t, v, idle(6, 2))
	same(t, w.Grant(api.Claim{Who: 2, Term: 6, Length: 9, Last: 0}, 1, 1), false)
	is(t, w, idle(6, -1))
}

// P7.3: a claim that is newer, the same and older, by its Last and by its Length; in the term itself, and behind Hear, which also a refused one has done.
func TestGrantBehind(t *testing.T) {
	for _, x := range []struct {
		length, last int64 // the claim's
		want         bool
	}{
		{7, 3, true}, {8, 3, true}, {6, 3, false}, {0, 3, false}, {7, 4, true}, {7, 2, false},
		{0, 4, true}, {99, 2, false}, {maxTime, 2, false}, {0, maxTime, true},
		{math.MaxInt64, math.MaxInt64, true}, {math.MinInt64, math.MaxInt64, true}, {math.MinInt64, 3, false}, {math.MaxInt64, math.MinInt64, false},
	} {
		for _, voted := range []int{-1, 2} { // also what was given is refused, if its claim is behind now
			for _, term := range []int64{5, 6} {
				v := made(t, 3, 1, 5, voted)
				same(t, v.Grant(api.Claim{Who: 2, Term: term, Length: x.length, Last: x.last}, 7, 3), x.want)
				switch {
				case x.want:
					is(t, v, idle(term, 2))
				case term == 5:
					is(t, v, idle(5, voted))
				default:
					is(t, v, idle(6, -1))
					same(t, v.Grant(api.Claim{Who: 0, Term: 6, Length: 7, Last: 3}, 7, 3), true)
				}
			}
		}
	}
	v := made(t, 2, 0, 5, -1)
	same(t, v.Grant(api.Claim{Who: 1, Term: 5}, math.MinInt64, math.MinInt64), true)
	same(t, v.Grant(api.Claim{Who: 1, Term: 5}, math.MaxInt64, math.MaxInt64), false)
	is(t, v, idle(5, 1))
}

// P7.4: Stand, up to the last term, and twice in a row.
func TestStand(t *testing.T) {
	for self := range 3 {
		for _, voted := range []int{-1, 0, 1, 2} {
			for _, term := range []int64{0, 5, maxTime - 2} {
				v := made(t, 3, self, term, voted)
				same(t, v.Stand(), api.OK)
				is(t, v, seen{term + 1, self, true, false, []int{self}})
				same(t, v.Count((self+1)%3, term+1, true), true)
				same(t, v.Stand(), api.OK)
				is(t, v, seen{term + 2, self, true, false, []int{self}})
			}
			v := made(t, 3, self, maxTime-1, voted)
			same(t, v.Stand(), api.OK)
			last := seen{maxTime, self, true, false, []int{self}}
			is(t, v, last)
			for range 2 {
				same(t, v.Stand(), api.ErrLong)
				is(t, v, last)
			}
			v = made(t, 3, self, maxTime, voted)
			same(t, v.Stand(), api.ErrLong)
			is(t, v, idle(maxTime, voted))
		}
	}
}

// P7.4: what is not counted.
func TestCountRefused(t *testing.T) {
	for _, x := range []struct {
		who  int
		term int64
		yes  bool
	}{
		{0, 7, false}, {2, 7, false}, // no
		{0, 6, true}, {0, 8, true}, {0, 0, true}, {0, -1, true}, {0, maxTime, true}, {0, math.MaxInt64, true}, {0, math.MinInt64, true}, // of another term
		{1, 7, true}, {-1, 7, true}, {5, 7, true}, {6, 7, true}, {math.MinInt, 7, true}, {math.MaxInt, 7, true}, // itself, and nobody
		{3, 7, true}, // which has been counted
	} {
		v := stands(t, 5, 1, 7)
		same(t, v.Count(3, 7, true), false)
		want := seen{7, 1, true, false, []int{1, 3}}
		is(t, v, want)
		same(t, v.Count(x.who, x.term, x.yes), false)
		is(t, v, want)
	}
}

// P7.4: one who does not stand counts nothing: it never did, has heard a later term, or has come back.
func TestCountNotStanding(t *testing.T) {
	for _, voted := range []int{-1, 0, 1, 2} {
		v := made(t, 3, 1, 7, voted)
		for _, who := range []int{-1, 0, 1, 2, 3} {
			same(t, v.Count(who, 7, true), false)
		}
		is(t, v, idle(7, voted))
	}
	v := stands(t, 3, 1, 7)
	same(t, v.Hear(8), true)
	same(t, v.Count(0, 7, true), false)
	same(t, v.Count(0, 8, true), false)
	is(t, v, idle(8, -1))
}

// P7.4: a vote is for the term that it was asked for in.
func TestCountBehindStand(t *testing.T) {
	v := stands(t, 3, 1, 7)
	same(t, v.Stand(), api.OK)
	same(t, v.Count(0, 7, true), false)
	is(t, v, seen{8, 1, true, false, []int{1}})
	same(t, v.Count(0, 8, true), true)
	is(t, v, seen{8, 1, true, true, []int{0, 1}})
}

// P7.1, P7.4: in groups of all sizes, the vote that makes more than a half wins, none ahead of it and none behind it; refused ones between change nothing.
func TestWon(t *testing.T) {
	for n := 1; n <= api.MaxReplicas; n++ {
		for self := range n {
			v := stands(t, n, self, 7)
			has := []int{self}
			same(t, v.Won(), n == 1)
			for i := 1; i < n; i++ {
				who := (self + i*2) % n // not rising
				if n%2 == 0 {
					who = (self + n - i) % n
				}
				same(t, v.Count(who, 7, false), false)
				same(t, v.Count(who, 7, true), 2*(i+1) > n && 2*i <= n)
				has = append(has, who)
				slices.Sort(has)
				is(t, v, seen{7, self, true, 2*(i+1) > n, has})
				for _, who := range has {
					same(t, v.Count(who, 7, true), false)
				}
			}
			same(t, len(has), n)
		}
	}
}

// P7.1: a half of an even group is not a majority, one more is.
func TestHalf(t *testing.T) {
	v := stands(t, 2, 0, 1)
	same(t, v.Won(), false)
	same(t, v.Count(1, 1, true), true)
	same(t, v.Won(), true)
	v = stands(t, 4, 3, 1)
	same(t, v.Count(0, 1, true), false)
	same(t, v.Won(), false)
	same(t, v.Count(2, 1, true), true)
	same(t, v.Won(), true)
	same(t, v.Count(1, 1, true), false)
	same(t, v.Won(), true)
}

// P7.4: a group of one wins by standing, and knows nobody else.
func TestAlone(t *testing.T) {
	v := made(t, 1, 0, 0, -1)
	is(t, v, idle(0, -1))
	same(t, v.Grant(api.Claim{Who: 0, Term: 1}, 0, 0), false)
	same(t, v.Stand(), api.OK)
	won := seen{1, 0, true, true, []int{0}}
	is(t, v, won)
	for _, who := range []int{-1, 0, 1} {
		same(t, v.Count(who, 1, true), false)
	}
	is(t, v, won)
	same(t, v.Stand(), api.OK)
	is(t, v, seen{2, 0, true, true, []int{0}})
	same(t, v.Hear(3), true)
	is(t, v, idle(3, -1))
}
