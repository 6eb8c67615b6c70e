package replica

import "trivet/api"

// step takes a message.
func (r *member) step(m api.Msg) ([]api.Msg, api.Errno) {
	switch {
	case !r.takes(m):
		return nil, api.ErrMessage
	case m.Kind == api.MsForward:
		return r.forwarded(m.Entry)
	case m.Term < r.term():
		return r.refused(m), api.OK
	case m.Term > r.term():
		if e := r.hear(m.Term); e != api.OK {
			return nil, r.fatal(e)
		}
	}
	return r.heard(m)
}

// forwarded takes an entry for the leader; it may have come late, to one that leads no more.
func (r *member) forwarded(x api.Entry) ([]api.Msg, api.Errno) {
	if !r.leads() {
		return nil, api.OK
	}
	l, e := r.propose(x)
	return l, r.fatal(e)
}

// refused is the answer to who is of a term that is over: it hears of the later one by that.
func (r *member) refused(m api.Msg) []api.Msg {
	switch m.Kind {
	case api.MsVote:
		return r.voted(m.From, false)
	case api.MsAppend, api.MsPart:
		return r.appended(m.From, false, 0)
	}
	return nil
}

// heard takes a message of its own term.
func (r *member) heard(m api.Msg) ([]api.Msg, api.Errno) {
	switch m.Kind {
	case api.MsVote:
		return r.asked(m)
	case api.MsVoted:
		return r.count(m)
	case api.MsAppended:
		return r.answered(m), api.OK
	}
	if r.leads() { // no other one leads its term
		return nil, api.OK
	}
	r.follow(m.From)
	if m.Kind == api.MsPart {
		return r.takePart(m)
	}
	return r.take(m)
}

// asked gives its vote, or refuses it.
func (r *member) asked(m api.Msg) ([]api.Msg, api.Errno) {
	v := r.votes.Clone()
	if !v.Grant(api.Claim{Who: m.From, Term: m.Term, Length: m.Slot, Last: m.Last}, r.Length(), r.Last()) {
		return r.voted(m.From, false), api.OK
	}
	if e := r.keep(v); e != api.OK {
		return nil, r.fatal(e)
	}
	r.wait = 0
	return r.voted(m.From, true), api.OK
}

// count counts a vote: with a majority's it leads.
func (r *member) count(m api.Msg) ([]api.Msg, api.Errno) {
	if !r.votes.Count(m.From, m.Term, m.Yes) {
		return nil, api.OK
	}
	return r.lead()
}

// take takes a leader's entries, if its own log is like the leader's up to them.
func (r *member) take(m api.Msg) ([]api.Msg, api.Errno) {
	switch {
	case m.Slot > r.Length():
		return r.appended(m.From, false, r.Length()), api.OK
	case m.Slot >= r.First() && m.Slot > 0 && r.ahead(m.Slot) != m.Last:
		return r.appended(m.From, false, r.placeToTry(m.Slot)), api.OK
	}
	slot, list := r.left(m.Slot, m.List)
	behind := slot + int64(len(list))
	if len(list) > 0 {
		if e := r.Append(slot, list...); e != api.OK {
			return nil, r.fatal(e)
		}
	}
	if upto := min(m.Commit, behind); upto > r.Upto() {
		r.Commit(upto)
	}
	return r.appended(m.From, true, behind), api.OK
}

// left is what is left of a list of entries, and at which slot, without those that are in the checkpoint. These are chosen, and so the leader's are the same.
func (r *member) left(slot int64, l []api.Termed) (int64, []api.Termed) {
	below := min(max(0, r.First()-slot), int64(len(l)))
	return slot + below, l[below:]
}

// placeToTry is from where on a leader, whose log is another one ahead of a slot, is to try again: ahead of all entries of that term that are not chosen, for one by one it would take long.
func (r *member) placeToTry(slot int64) int64 {
	s, term := slot-1, r.ahead(slot)
	for s > r.Upto() && r.ahead(s) == term {
		s--
	}
	return s
}

// answered takes what another one answers to what it was sent.
func (r *member) answered(m api.Msg) []api.Msg {
	if !r.leads() {
		return nil
	}
	if _, e := r.book.Told(m.From, m.Yes, m.Slot); e != api.OK {
		return nil
	}
	r.agree()
	if m.Yes && r.book.Next(m.From) >= r.Length() {
		return nil
	}
	return r.send(m.From)
}
