package keeper

import (
	"trivet/api"
	"trivet/record"
	"trivet/shape"
)

// The numbers with which the journal's records begin.
const (
	kindVote  = 1
	kindEntry = 2
	kindBase  = 3
)

// nobody is who has a vote that is not given.
const nobody = 0

// vote is a term, and who has the vote in it, as records have it: the replica's number and one.
type vote struct {
	term int64
	who  int64
}

// held is an entry of the log: its term, record.Entry's bytes of it, and how many pages its record has. The bytes are a text, which nobody can change, so that copies of a list may share them.
type held struct {
	term  int64
	form  string
	pages int
}

// found is a record of the journal, read: the two numbers behind its first one, and the bytes behind these.
type found struct {
	a, b int64
	rest []byte
}

// hold is what is held of an entry at a slot, form being record.Entry's bytes of it.
func hold(slot, term int64, form []byte) held {
	h := held{term: term, form: string(form)}
	h.pages = pagesOf(len(h.record(slot)))
	return h
}

// record is the record of an entry at a slot.
func (h held) record(slot int64) []byte {
	return shape.Blob(shape.Num(nil, kindEntry, slot, h.term), []byte(h.form))
}

// termed is the entry with its term, in memory of its own.
func (h held) termed() api.Termed {
	x, _ := record.TakeEntry([]byte(h.form)) // which has been written by record.Entry, or taken ahead of this
	return api.Termed{Term: h.term, Entry: x}
}

// record is the record of a vote or, by kind, of a base.
func (v vote) record(kind int64) []byte {
	return shape.Num(nil, kind, v.term, v.who)
}

// mayBe tells whether the term and who has the vote are such as there are.
func (v vote) mayBe() bool {
	return isCount(v.term) && v.who >= nobody && v.who <= api.MaxReplicas
}

// mayFollow tells whether it may take the place of another one: terms do not fall, and within one a vote is given once.
func (v vote) mayFollow(was vote) bool {
	if v.term == was.term {
		return was.who == nobody || was.who == v.who
	}
	return v.term > was.term
}

// isCount tells whether n may be a term or a slot.
func isCount(n int64) bool {
	return n >= 0 && n <= api.MaxTime
}

// replay does the journal's records, in order, and tells whether all of them may be.
func (k *Keeper) replay() bool {
	doings := k.doings()
	for _, b := range k.journal.Records() {
		l, rest, e := shape.Nums(b, 3) // as many as each kind begins with
		if e != api.OK {
			return false
		}
		do, has := doings[l[0]]
		if !has || !do(found{a: l[1], b: l[2], rest: rest}) {
			return false
		}
	}
	return true
}

// doings are what is done with records, by the numbers with which they begin; each tells whether the record may be.
func (k *Keeper) doings() map[int64]func(found) bool {
	return map[int64]func(found) bool{
		kindVote:  k.doVote,
		kindEntry: k.doEntry,
		kindBase:  k.doVote,
	}
}

// doVote does a vote, or a base.
func (k *Keeper) doVote(r found) bool {
	k.vote = vote{term: r.a, who: r.b}
	return k.vote.mayBe() && len(r.rest) == 0
}

// doEntry does an entry. One below the checkpoint's slot is in the checkpoint, but it must be one that may be.
func (k *Keeper) doEntry(r found) bool {
	slot, term := r.a, r.b
	form, size, e := shape.TakeBlob(r.rest)
	if e != api.OK || size != len(r.rest) || !isCount(slot) || !isCount(term) {
		return false
	}
	if _, e := record.TakeEntry(form); e != api.OK || slot > k.Length() {
		return false
	}
	if slot >= k.First() {
		k.put(slot, hold(slot, term, form))
	}
	return true
}
