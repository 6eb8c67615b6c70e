package keeper

import (
	"iter"
	"slices"

	"trivet/api"
	"trivet/record"
)

// First is the log's first slot: all below it is in the checkpoint.
func (k *Keeper) First() int64 {
	if !k.made() {
		return 0
	}
	return k.saved.Slot
}

// Upto is the slot below which all is chosen.
func (k *Keeper) Upto() int64 {
	if !k.made() {
		return 0
	}
	return k.upto
}

// Length is the slot behind the log's last one.
func (k *Keeper) Length() int64 {
	if !k.made() {
		return 0
	}
	return k.saved.Slot + int64(len(k.entries))
}

// Last is the term of the last entry, be it in the log or in the checkpoint.
func (k *Keeper) Last() int64 {
	term, _ := k.TermAt(k.Length() - 1)
	return term
}

// At is the entry of a slot, and whether the log has one there.
func (k *Keeper) At(slot int64) (api.Termed, bool) {
	h, has := k.find(slot)
	if !has {
		return api.Termed{}, false
	}
	return h.termed(), true
}

// TermAt is the term of the entry of a slot, also of the checkpoint's last one, and whether it is known.
func (k *Keeper) TermAt(slot int64) (int64, bool) {
	h, has := k.find(slot)
	switch {
	case has:
		return h.term, true
	case k.made() && k.has && slot == k.First()-1:
		return k.saved.Last, true
	}
	return 0, false
}

// All goes through the log from a slot on.
func (k *Keeper) All(from int64) iter.Seq2[int64, api.Termed] {
	from = max(from, k.First())
	was := slices.Clone(k.from(from)) // now, for what is told is not to follow later calls
	return func(yield func(int64, api.Termed) bool) {
		for i, h := range was {
			if !yield(from+int64(i), h.termed()) {
				return
			}
		}
	}
}

// Append puts entries to the log, one behind the other from a slot on. Those that stand there already are left as they are, up to the first that does not.
func (k *Keeper) Append(slot int64, l ...api.Termed) api.Errno {
	if e := k.ready(); e != api.OK {
		return e
	}
	if slot < k.First() || slot > k.Length() || slot+int64(len(l)) > api.MaxTime {
		return api.ErrSlot
	}
	all := make([]held, len(l))
	for i, x := range l {
		h, e := k.taken(slot+int64(i), x)
		if e != api.OK {
			return e
		}
		all[i] = h
	}
	n := k.standing(slot, all...)
	return k.add(slot+int64(n), k.spare(l[n:]...), all[n:]...)
}

// taken is what is to be held of an entry at a slot of the log or behind it, or why it may not stand there.
func (k *Keeper) taken(slot int64, x api.Termed) (held, api.Errno) {
	if !isCount(x.Term) {
		return held{}, api.ErrArg
	}
	form, e := record.Entry(x.Entry)
	if e != api.OK {
		return held{}, e
	}
	h := hold(slot, x.Term, form)
	switch {
	case len(form) > api.MaxEntry:
		return held{}, api.ErrLong
	case slot < k.Upto() && !k.stands(slot, h):
		return held{}, api.ErrClash
	}
	return h, api.OK
}

// standing is how many of the first entries stand in the log already, from a slot on.
func (k *Keeper) standing(slot int64, l ...held) int {
	for i, h := range l {
		if !k.stands(slot+int64(i), h) {
			return i
		}
	}
	return len(l)
}

// stands tells whether there is an entry of the same term at a slot: it is the same one then.
func (k *Keeper) stands(slot int64, h held) bool {
	was, has := k.find(slot)
	return has && was.term == h.term
}

// add writes entries and puts them to the log from a slot on, if so many pages stay free beside the reserve.
func (k *Keeper) add(slot int64, spare int, l ...held) api.Errno {
	ahead := k.entries[:slot-k.First()]
	switch {
	case len(l) == 0:
		return api.OK
	case k.journal.Room()-pages(l...) < reserve(ahead...)+pages(l...)+spare:
		return api.ErrFull
	case !k.numbers(len(l)):
		return api.ErrLong
	}
	for i, h := range l {
		at := slot + int64(i)
		if _, e := k.write(h.record(at)); e != api.OK {
			return e
		}
		k.put(at, h)
	}
	return api.OK
}

// put lets an entry stand at a slot of the log, or just behind it. Where another one stood, that one and those behind it go.
func (k *Keeper) put(slot int64, h held) {
	if k.stands(slot, h) {
		return
	}
	ahead := slices.Delete(k.entries, int(slot-k.First()), len(k.entries))
	k.entries = append(ahead, h)
}

// find is what is held of a slot.
func (k *Keeper) find(slot int64) (held, bool) {
	if slot < k.First() || slot >= k.Length() {
		return held{}, false
	}
	return k.entries[slot-k.First()], true
}

// from is what is held from a slot on that is not below First; its memory is the keeper's.
func (k *Keeper) from(slot int64) []held {
	if slot >= k.Length() {
		return nil
	}
	return k.entries[slot-k.First():]
}

// Commit says that all below a slot is chosen.
func (k *Keeper) Commit(upto int64) api.Errno {
	if e := k.ready(); e != api.OK {
		return e
	}
	if upto < k.Upto() || upto > k.Length() {
		return api.ErrSlot
	}
	k.upto = upto
	return api.OK
}
