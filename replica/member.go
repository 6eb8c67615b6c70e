package replica

import (
	"iter"

	"trivet/api"
	"trivet/keeper"
	"trivet/match"
	"trivet/record"
	"trivet/vote"
)

// nobody is the leader that is not known, and who has a vote that is not given.
const nobody = -1

// place is a replica's number, of how many.
type place struct {
	api.Conf
}

// member is what a replica is made of: its place and its keeper, whose calls are its own here, and what it would forget in a crash.
type member struct {
	place
	*keeper.Keeper
	votes  *vote.Vote // its term and its vote are those of the keeper
	role   int
	book   *match.Match // just while it leads
	leader int
	wait   int   // ticks since it heard of a leader, or gave its vote
	told   int64 // the slot of the next entry that is told
	coming coming
}

// mayBe tells whether there is such a place.
func (p place) mayBe() bool {
	return p.N >= 1 && p.N <= api.MaxReplicas && p.Self >= 0 && p.Self < p.N
}

// others goes through the other replicas of the group, rising.
func (p place) others() iter.Seq[int] {
	return func(yield func(int) bool) {
		for i := range p.N {
			if i != p.Self && !yield(i) {
				return
			}
		}
	}
}

// takes tells whether a message may be, and is for this place, from another one of the group.
func (p place) takes(m api.Msg) bool {
	return record.CheckMsg(m) == api.OK && m.To == p.Self && m.From != p.Self && m.From < p.N
}

// term is the term that it is in.
func (r *member) term() int64 { return r.votes.Term() }

// leads tells whether it leads.
func (r *member) leads() bool { return r.role == api.RoleLead }

// keep makes votes its own, if the keeper has them first.
func (r *member) keep(v *vote.Vote) api.Errno {
	e := r.Vote(v.Term(), whom(v.Voted()))
	if e == api.OK {
		r.votes = v
	}
	return e
}

// fatal is an error of the keeper, if it is broken by it; another one answers nothing.
func (r *member) fatal(e api.Errno) api.Errno {
	if r.Broken() {
		return e
	}
	return api.OK
}

// tick lets a tick pass: who leads is heard by it, who has heard of no leader for long stands.
func (r *member) tick() ([]api.Msg, api.Errno) {
	if r.leads() {
		return r.sendAll(), api.OK
	}
	r.wait++
	if r.wait != Patience(r.Self) {
		return nil, api.OK
	}
	r.wait = 0
	return r.stand()
}

// stand asks for votes in a new term.
func (r *member) stand() ([]api.Msg, api.Errno) {
	v := r.votes.Clone()
	if e := v.Stand(); e != api.OK {
		return nil, e
	}
	if e := r.keep(v); e != api.OK {
		return nil, e
	}
	r.role, r.leader = api.RoleStand, nobody
	if r.votes.Won() { // by its own vote, there being no others
		return r.lead()
	}
	var l []api.Msg
	for i := range r.others() {
		l = append(l, api.Msg{Kind: api.MsVote, To: i, Slot: r.Length(), Last: r.Last()})
	}
	return r.said(l...), api.OK
}

// hear goes on to a term that is above its own, in which it knows of nobody yet.
func (r *member) hear(term int64) api.Errno {
	v := r.votes.Clone()
	v.Hear(term)
	if e := r.keep(v); e != api.OK {
		return e
	}
	r.role, r.book, r.leader = api.RoleFollow, nil, nobody
	return api.OK
}

// follow takes another one as the leader of the term.
func (r *member) follow(leader int) {
	r.role, r.leader, r.wait = api.RoleFollow, leader, 0
}

// lead begins to lead the term, with an entry that holds nothing: only behind one of its own term may a leader call the others' chosen.
func (r *member) lead() ([]api.Msg, api.Errno) {
	r.role, r.leader, r.wait = api.RoleLead, r.Self, 0
	r.book, _ = match.New(r.Conf, r.Length())
	if e := r.fatal(r.grow(api.Entry{})); e != api.OK {
		return nil, e
	}
	r.agree()
	return r.sendAll(), api.OK
}

// grow puts an entry of its term behind its log.
func (r *member) grow(x api.Entry) api.Errno {
	if e := r.Append(r.Length(), api.Termed{Term: r.term(), Entry: x}); e != api.OK {
		return e
	}
	r.book.Grow(r.Length())
	return api.OK
}

// agree calls chosen what a majority has, if the last of it is of its own term: what is of earlier ones may still be taken back, till one of its own stands behind it.
func (r *member) agree() {
	agreed := r.book.Agreed()
	term, _ := r.TermAt(agreed - 1)
	if agreed > r.Upto() && term == r.term() {
		r.Commit(agreed)
	}
}

// propose asks for an entry: who leads puts it to the log, who does not hands it on.
func (r *member) propose(x api.Entry) ([]api.Msg, api.Errno) {
	if e := record.CheckEntry(x); e != api.OK {
		return nil, e
	}
	switch {
	case r.leader == nobody:
		return nil, api.ErrLeader
	case !r.leads():
		return []api.Msg{r.forward(x)}, api.OK
	case r.Length()-r.Upto() >= api.MaxOpen:
		return nil, api.ErrFull
	}
	if e := r.grow(x); e != api.OK {
		return nil, e
	}
	r.agree()
	return r.sendNear(), api.OK
}

// whom is who has a vote, nobody if it is not given.
func whom(who int, given bool) int {
	if !given {
		return nobody
	}
	return who
}
