package replica

import "trivet/api"

// Restore is a checkpoint that is to be taken up, for what comes next is no more in the log: its slot and its data, and whether there is one.
func (r *Replica) Restore() (int64, []byte, bool) {
	if !r.made() || r.in.First() <= r.in.told {
		return 0, nil, false
	}
	s, _ := r.in.State()
	r.in.told = s.Slot
	return s.Slot, s.Data, true
}

// Next is the next entry that is chosen, its slot, and whether there is one; none is, while a checkpoint is to be taken up first.
func (r *Replica) Next() (int64, api.Entry, bool) {
	slot := r.Told()
	x, is := r.Chosen(slot)
	if !is {
		return 0, api.Entry{}, false
	}
	r.in.told++
	return slot, x, true
}

// Checkpoint says that all slots below slot are in data.
func (r *Replica) Checkpoint(slot int64, data []byte) api.Errno {
	if e := r.ready(); e != api.OK {
		return e
	}
	if slot > r.in.told {
		return api.ErrArg
	}
	return r.in.Checkpoint(slot, data)
}

// Role is whether it follows, stands or leads.
func (r *Replica) Role() int {
	if !r.made() {
		return 0
	}
	return r.in.role
}

// Term is the term that it is in.
func (r *Replica) Term() int64 {
	if !r.made() {
		return 0
	}
	return r.in.term()
}

// Leader is its term with the leader that it knows there, and whether it knows one.
func (r *Replica) Leader() (api.Ballot, bool) {
	if !r.made() || r.in.leader == nobody {
		return api.Ballot{}, false
	}
	return api.Ballot{Round: r.in.term(), Replica: r.in.leader}, true
}

// Told is the slot of the entry that Next tells next.
func (r *Replica) Told() int64 {
	if !r.made() {
		return 0
	}
	return r.in.told
}

// First is the log's first slot: all below it is in the checkpoint.
func (r *Replica) First() int64 {
	if !r.made() {
		return 0
	}
	return r.in.First()
}

// Upto is the slot below which all is chosen.
func (r *Replica) Upto() int64 {
	if !r.made() {
		return 0
	}
	return r.in.Upto()
}

// Chosen is the entry of a slot that is chosen, and whether the log has it.
func (r *Replica) Chosen(slot int64) (api.Entry, bool) {
	if !r.made() || slot >= r.in.Upto() {
		return api.Entry{}, false
	}
	x, has := r.in.At(slot)
	return x.Entry, has
}

// Broken tells whether its keeper's flash has answered an error.
func (r *Replica) Broken() bool {
	return r.made() && r.in.Broken()
}
