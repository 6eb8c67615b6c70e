package vote_test

import (
	"math"
	"slices"
	"testing"

	"trivet/api"
	"trivet/vote"
)

// changes is what may be done to one of five that stands in the term 3.
func changes() map[string]func(v *vote.Vote) {
	return map[string]func(v *vote.Vote){
		"count": func(v *vote.Vote) { v.Count(1, 3, true) },
		"hear":  func(v *vote.Vote) { v.Hear(9) },
		"grant": func(v *vote.Vote) { v.Grant(api.Claim{Who: 1, Term: 4}, 0, 0) },
		"stand": func(v *vote.Vote) { v.Stand() },
	}
}

// P7.1, R3: Votes rises, may be broken off at any point, and be gone through again.
func TestVotesAgain(t *testing.T) {
	v := stands(t, 5, 2, 3)
	for _, who := range []int{4, 0, 1} {
		v.Count(who, 3, true)
	}
	l, want := v.Votes(), []int{0, 1, 2, 4}
	for stop := range len(want) + 2 {
		var got []int
		for who := range l {
			if len(got) == stop {
				break
			}
			got = append(got, who)
		}
		if !slices.Equal(got, want[:min(stop, len(want))]) {
			t.Error(stop, got)
		}
	}
	for range 2 {
		if got := slices.Collect(l); !slices.Equal(got, want) {
			t.Error(got)
		}
	}
	for a := range l { // within itself
		if got := slices.Collect(l); !slices.Equal(got, want) {
			t.Error(a, got)
		}
	}
}

// R3: what Votes answered tells what was there when it was asked for, whatever is done behind that, also while it is gone through.
func TestVotesAsTheyWere(t *testing.T) {
	for name, do := range changes() {
		v := stands(t, 5, 2, 3)
		v.Count(0, 3, true)
		l := v.Votes()
		do(v)
		for range 2 {
			if got := slices.Collect(l); !slices.Equal(got, []int{0, 2}) {
				t.Error(name, got)
			}
		}
		v = stands(t, 5, 2, 3)
		v.Count(0, 3, true)
		var got []int
		for who := range v.Votes() {
			do(v)
			got = append(got, who)
		}
		if !slices.Equal(got, []int{0, 2}) {
			t.Error(name, "while it is gone through:", got)
		}
	}
	v := made(t, 3, 0, 3, 0)
	l := v.Votes()
	v.Stand()
	if got := slices.Collect(l); len(got) > 0 {
		t.Error("of one who did not stand:", got)
	}
}

// P7.4, R3: a clone is the same, and what is done to either is not seen of the other.
func TestClone(t *testing.T) {
	for name, do := range changes() {
		v := stands(t, 5, 2, 3)
		v.Count(0, 3, true)
		was := seen{3, 2, true, false, []int{0, 2}}
		w := v.Clone()
		if w == v {
			t.Fatal("it is itself")
		}
		is(t, w, was)
		do(v)
		is(t, w, was)
		if look(t, v).same(was) {
			t.Error(name, "did nothing")
		}
		do(w)
		if !look(t, v).same(look(t, w)) {
			t.Error(name, look(t, v), look(t, w))
		}
		v = stands(t, 5, 2, 3)
		v.Count(0, 3, true)
		do(v.Clone())
		is(t, v, was)
	}
}

// P7.4: a clone is of the same group and the same place in it, whether it stands or not.
func TestCloneGoesOn(t *testing.T) {
	for n := 1; n <= api.MaxReplicas; n++ {
		for self := range n {
			for voted := -1; voted < n; voted++ {
				v := made(t, n, self, 6, voted).Clone()
				is(t, v, idle(6, voted))
				same(t, v.Stand(), api.OK)
				is(t, v.Clone(), seen{7, self, true, n == 1, []int{self}})
				has := 1
				for who := range n {
					v = v.Clone()
					if v.Count(who, 7, true) {
						same(t, has+1, n/2+1)
					}
					if who != self {
						has++
					}
				}
				same(t, has, len(slices.Collect(v.Votes())))
				same(t, v.Won(), true)
				same(t, v.Count(n, 7, true), false)
			}
		}
	}
}

// R3: two made alike have nothing of each other.
func TestMadeApart(t *testing.T) {
	v, w := stands(t, 3, 0, 4), stands(t, 3, 0, 4)
	v.Count(1, 4, true)
	is(t, w, seen{4, 0, true, false, []int{0}})
	w.Hear(5)
	is(t, v, seen{4, 0, true, true, []int{0, 1}})
}

// P7.4, R5: one that no call made, nil or a zero struct, answers nothing and does nothing, whatever it is asked.
func TestOneThatNoCallMade(t *testing.T) {
	var none *vote.Vote
	for _, v := range []*vote.Vote{none, {}} {
		for range 2 {
			same(t, v.Stand(), api.ErrMade)
			for _, term := range []int64{math.MinInt64, -1, 0, 1, 5, maxTime, math.MaxInt64} {
				same(t, v.Hear(term), false)
				for _, who := range []int{math.MinInt, -1, 0, 1, 4, 5, math.MaxInt} {
					same(t, v.Grant(api.Claim{Who: who, Term: term, Length: 9, Last: 9}, 0, 0), false)
					same(t, v.Count(who, term, true), false)
					same(t, v.Count(who, term, false), false)
				}
			}
			if v.Clone() != nil {
				t.Error("a clone of none")
			}
			if v.Votes() == nil {
				t.Fatal("no iterator")
			}
			is(t, v, idle(0, -1))
		}
		same(t, v == nil || *v == vote.Vote{}, true)
	}
}

// THE BOUND: a call takes the same however far the terms have gone.
func TestMemory(t *testing.T) {
	v := made(t, 5, 0, 0, -1)
	for range 1000 {
		v.Stand()
		v.Count(1, v.Term(), true)
	}
	if n := testing.AllocsPerRun(100, func() {
		v.Hear(v.Term() + 1)
		v.Grant(api.Claim{Who: 1, Term: v.Term()}, 0, 0)
		v.Stand()
		for who := range 5 {
			v.Count(who, v.Term(), true)
		}
		v.Clone()
	}); n > 30 {
		t.Error(n, "pieces of memory")
	}
}
