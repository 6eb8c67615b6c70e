package match

import (
	"iter"
	"slices"

	"trivet/api"
)

// Sent notes that another one was sent the entries below to: those behind them are next.
func (m *Match) Sent(i int, to int64) api.Errno {
	if e := m.another(i); e != api.OK {
		return e
	}
	if to < m.Next(i) || to > m.Length() {
		return api.ErrArg
	}
	m.of[i].next = to
	return api.OK
}

// Told takes another one's answer: its log is like the own one up to slot, or it is to be tried again from slot on. It tells whether a majority agrees further by that.
func (m *Match) Told(i int, yes bool, slot int64) (bool, api.Errno) {
	if e := m.another(i); e != api.OK {
		return false, e
	}
	if slot < 0 || slot > m.Length() && yes {
		return false, api.ErrArg
	}
	was := m.Agreed()
	if yes {
		m.of[i].on(slot)
	} else {
		m.of[i].back(slot)
	}
	return m.Agreed() > was, api.OK
}

// on takes like to a slot, and next along; not back, for the answer may come late.
func (k *known) on(slot int64) {
	k.like = max(k.like, slot)
	k.next = max(k.next, k.like)
}

// back takes next to a slot, but not below what is known to be like, for the answer may come late.
func (k *known) back(slot int64) {
	k.next = min(k.next, max(slot, k.like))
}

// Agreed is up to where a majority's logs are like the own one.
func (m *Match) Agreed() int64 {
	if !m.made() {
		return 0
	}
	likes := make([]int64, m.conf.N)
	for i := range likes {
		likes[i] = m.of[i].like
	}
	slices.Sort(likes)
	return likes[(m.conf.N-1)/2] // this one and those behind it are just more than half
}

// Lagging goes through the others whose logs are not known to be like all of the own one, rising.
func (m *Match) Lagging() iter.Seq[int] {
	var was Match // a copy, for the iterator tells what was there when it was asked for
	if m != nil {
		was = *m
	}
	return func(yield func(int) bool) {
		for i, k := range was.others() {
			if k.like < was.Length() && !yield(i) {
				return
			}
		}
	}
}

// others goes through what is known of each other replica, rising.
func (m *Match) others() iter.Seq2[int, known] {
	return func(yield func(int, known) bool) {
		for i := range m.conf.N {
			if i != m.conf.Self && !yield(i, m.of[i]) {
				return
			}
		}
	}
}
