package vote

import (
	"iter"

	"trivet/api"
)

// Stand begins a term in which the replica asks for votes, and gives itself its own one.
func (v *Vote) Stand() api.Errno {
	switch {
	case !v.made():
		return api.ErrMade
	case v.term == api.MaxTime:
		return api.ErrLong
	}
	v.begin(v.term+1, v.conf.Self)
	v.votes[v.conf.Self] = true
	return api.OK
}

// Standing tells whether the replica asks for votes in its term: just then it has its own one.
func (v *Vote) Standing() bool { return v.made() && v.votes[v.conf.Self] }

// Count takes an answer to the replica's claim, and tells whether it has won by just this one.
func (v *Vote) Count(who int, term int64, yes bool) bool {
	if !yes || !v.Standing() || term != v.term || !v.another(who) || v.votes[who] {
		return false
	}
	had := v.Won()
	v.votes[who] = true
	return !had && v.Won()
}

// Won tells whether the replica stands and has a majority's votes.
func (v *Vote) Won() bool {
	has := 0
	for range v.Votes() {
		has++
	}
	return v.Standing() && has > v.conf.N/2
}

// Votes goes through those whose votes the replica has, rising.
func (v *Vote) Votes() iter.Seq[int] {
	var was Vote // a copy, for the iterator tells what was there when it was asked for
	if v != nil {
		was = *v
	}
	return func(yield func(int) bool) {
		for who := range was.conf.N {
			if was.votes[who] && !yield(who) {
				return
			}
		}
	}
}
