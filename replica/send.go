package replica

import (
	"slices"

	"trivet/api"
	"trivet/record"
)

// said are messages that are its own: each has its number and its term.
func (r *member) said(l ...api.Msg) []api.Msg {
	for i := range l {
		l[i].From, l[i].Term = r.Self, r.term()
	}
	return l
}

// voted is the answer to who asks for its vote.
func (r *member) voted(to int, yes bool) []api.Msg {
	return r.said(api.Msg{Kind: api.MsVoted, To: to, Yes: yes})
}

// appended is the answer to who leads: up to which slot the logs are alike, or from which one on it is to try again.
func (r *member) appended(to int, yes bool, slot int64) []api.Msg {
	return r.said(api.Msg{Kind: api.MsAppended, To: to, Yes: yes, Slot: slot})
}

// forward is an entry for the leader, whichever term it leads: so it has none.
func (r *member) forward(x api.Entry) api.Msg {
	return api.Msg{Kind: api.MsForward, From: r.Self, To: r.leader, Entry: record.CloneEntry(x)}
}

// sendAll sends to each of the others.
func (r *member) sendAll() []api.Msg {
	var l []api.Msg
	for i := range r.others() {
		l = append(l, r.send(i)...)
	}
	return l
}

// sendNear sends to each of the others that needs no checkpoint: that one is long, and is sent with the ticks.
func (r *member) sendNear() []api.Msg {
	var l []api.Msg
	for i := range r.others() {
		if r.book.Next(i) >= r.First() {
			l = append(l, r.send(i)...)
		}
	}
	return l
}

// send sends another one what it lacks, as far as the book knows: entries, or the checkpoint that they have gone into.
func (r *member) send(to int) []api.Msg {
	next := r.book.Next(to)
	if next < r.First() {
		return r.sendState(to)
	}
	list := r.entries(next)
	r.book.Sent(to, next+int64(len(list)))
	return r.said(api.Msg{Kind: api.MsAppend, To: to, Slot: next, Last: r.ahead(next), Commit: r.Upto(), List: list})
}

// ahead is the term of the entry ahead of a slot of the log, 0 if there is none.
func (r *member) ahead(slot int64) int64 {
	if slot == 0 {
		return 0
	}
	term, _ := r.TermAt(slot - 1)
	return term
}

// entries are those of the log from a slot on, as many as are told at once.
func (r *member) entries(from int64) []api.Termed {
	var l []api.Termed
taking:
	for _, x := range r.All(from) {
		switch len(l) {
		case api.MaxTell:
			break taking
		default:
			l = append(l, x)
		}
	}
	return l
}

// sendState sends another one the checkpoint, in parts.
func (r *member) sendState(to int) []api.Msg {
	s, _ := r.State()
	pieces := cut(s.Data)
	var l []api.Msg
	for i, b := range pieces {
		p := api.Part{Slot: s.Slot, Index: i, Many: len(pieces), Data: b}
		l = append(l, api.Msg{Kind: api.MsPart, To: to, Slot: s.Slot, Last: s.Last, Part: p})
	}
	return r.said(l...)
}

// cut is bytes in pieces, each with memory of its own, one at least.
func cut(b []byte) [][]byte {
	if len(b) == 0 {
		return [][]byte{nil}
	}
	var l [][]byte
	for piece := range slices.Chunk(b, api.MaxData) {
		l = append(l, slices.Clone(piece))
	}
	return l
}
