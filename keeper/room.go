package keeper

import (
	"trivet/api"
	"trivet/ckpt"
	"trivet/shape"
)

const (
	votePages = 1 // of a vote, and of a base, whose three numbers are far less than a page has room for

	spareShare = 8 // which part of the journal's pages entries leave free, so that votes still find room
	mostSpare  = 64
	lowShare   = 4 // below which part of them a checkpoint is wanted

	beside = 10 // more bytes than the number of a base has
)

// pagesOf is how many pages a record of so many bytes has.
func pagesOf(size int) int {
	return max(1, (size+api.JournalChunk-1)/api.JournalChunk)
}

// pages is how many pages the records of entries have.
func pages(l ...held) int {
	n := 0
	for _, h := range l {
		n += h.pages
	}
	return n
}

// reserve is how many pages a log may need to be written once more, behind a base, when a checkpoint is made.
func reserve(l ...held) int {
	return votePages + pages(l...)
}

// ringPages is how many pages the journal's region has.
func (k *Keeper) ringPages() int {
	return k.ring().Blocks * api.PagesPerBlock
}

// spare is how many pages are to stay free beside the reserve, when these entries are put. Those that a leader begins with, which hold nothing, may take more.
func (k *Keeper) spare(l ...api.Termed) int {
	n := min(mostSpare, k.ringPages()/spareShare)
	for _, x := range l {
		if x.Entry.Kind != api.EnNone {
			return n
		}
	}
	return n / 2
}

// Room is how many pages there are for more.
func (k *Keeper) Room() int {
	if !k.made() {
		return 0
	}
	return max(0, k.journal.Room()-reserve(k.entries...))
}

// Low tells whether there are so few that a checkpoint should be made.
func (k *Keeper) Low() bool {
	return k.made() && k.Room() < k.ringPages()/lowShare
}

// numbers tells whether the journal has numbers for so many records more. It is asked ahead of the first of them, for a call that is refused is not to be half done.
func (k *Keeper) numbers(records int) bool {
	return k.journal.Next()+int64(records) <= api.MaxTime
}

// lacks is what there is not enough of for a checkpoint with these data, and entries that stay behind it.
func (k *Keeper) lacks(data []byte, stays ...held) api.Errno {
	size := shape.Size(int64(len(data))) + len(data)
	switch {
	case size+beside > ckpt.Most(k.halves()):
		return api.ErrFull
	case reserve(stays...) > k.journal.Room():
		return api.ErrFull
	case !k.numbers(1 + len(stays)):
		return api.ErrLong
	case k.saves() == api.MaxTime:
		return api.ErrFull
	}
	return api.OK
}

// saves is the number of the newest checkpoint on the flash. That there is a next one is asked ahead, as of the journal's numbers.
func (k *Keeper) saves() int64 {
	_, number, _ := ckpt.Half(k.flash, k.halves())
	return number
}
