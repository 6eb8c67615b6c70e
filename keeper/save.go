package keeper

import (
	"slices"

	"trivet/api"
	"trivet/ckpt"
	"trivet/shape"
)

// State is the checkpoint, and whether there is one.
func (k *Keeper) State() (api.Saved, bool) {
	if !k.made() || !k.has {
		return api.Saved{}, false
	}
	return own(k.saved), true
}

// Checkpoint keeps the state behind all slots below one that are chosen, and lets go of these.
func (k *Keeper) Checkpoint(slot int64, data []byte) api.Errno {
	if e := k.ready(); e != api.OK {
		return e
	}
	if slot <= k.First() || slot > k.Upto() {
		return api.ErrSlot
	}
	last, _ := k.TermAt(slot - 1)
	return k.cut(api.Saved{Slot: slot, Last: last, Data: data}, k.from(slot)...)
}

// Install keeps a checkpoint of another replica that is ahead of what is chosen here. Of the log only what goes on from it stays.
func (k *Keeper) Install(s api.Saved) api.Errno {
	if e := k.ready(); e != api.OK {
		return e
	}
	switch {
	case s.Slot <= k.Upto() || s.Slot > api.MaxTime:
		return api.ErrSlot
	case !isCount(s.Last):
		return api.ErrArg
	}
	var stays []held
	if last, has := k.TermAt(s.Slot - 1); has && last == s.Last {
		stays = k.from(s.Slot)
	}
	return k.cut(s, stays...)
}

// cut puts a checkpoint in the place of the log up to its slot. What stays is written once more, behind a base, ahead of the checkpoint: till that is saved the old records are those that count, and from then on these.
func (k *Keeper) cut(s api.Saved, stays ...held) api.Errno {
	if e := k.lacks(s.Data, stays...); e != api.OK {
		return e
	}
	base, e := k.write(k.vote.record(kindBase))
	if e != api.OK {
		return e
	}
	for i, h := range stays {
		if _, e := k.write(h.record(s.Slot + int64(i))); e != api.OK {
			return e
		}
	}
	data := shape.Blob(shape.Num(nil, base), s.Data)
	if e := k.heard(ckpt.Save(k.flash, k.halves(), api.Saved{Slot: s.Slot, Last: s.Last, Data: data})); e != api.OK {
		return e
	}
	k.entries = slices.Clone(stays) // else those that went would be held by the list that stays
	k.keep(own(s))
	return k.heard(k.journal.Trim(base))
}

// keep makes a checkpoint its own, behind which the log goes on.
func (k *Keeper) keep(s api.Saved) {
	k.saved, k.has = s, true
	k.upto = max(k.upto, s.Slot)
}

// own is the same checkpoint, in memory of its own.
func own(s api.Saved) api.Saved {
	s.Data = slices.Clone(s.Data)
	return s
}
