package locks

import (
	"iter"
	"slices"

	"trivet/api"
	"trivet/shard"
)

// Ready tells whether a transaction has asked, and has all its locks.
func (l *Locks) Ready(txn api.Id) bool {
	a := l.find(txn)
	return a != nil && a.lacks == 0
}

// All goes through the transactions that are ready, in the order in which they asked.
func (l *Locks) All() iter.Seq[api.Id] {
	var ready []api.Id // an iterator tells what was there when it was asked for
	for a := range l.all() {
		if a.lacks == 0 {
			ready = append(ready, a.txn)
		}
	}
	return slices.Values(ready)
}

// Waits is the keys whose locks a transaction asked for and has not, rising.
func (l *Locks) Waits(txn api.Id) []api.Key {
	a := l.find(txn)
	if a == nil {
		return nil
	}
	var out []api.Key
	for _, c := range a.claims {
		if !c.of.held {
			out = append(out, c.of.lock.Key)
		}
	}
	return out
}

// Queue is who has asked for a key, from the first one on.
func (l *Locks) Queue(k api.Key) []api.Waiter {
	if !l.made() || l.queues[k] == nil {
		return nil
	}
	var out []api.Waiter
	for c := range l.queues[k].all() {
		out = append(out, api.Waiter{Txn: c.by.txn, Excl: c.lock.Excl, Held: c.held})
	}
	return out
}

// Keys is the keys that somebody has asked for, rising.
func (l *Locks) Keys() []api.Key {
	var out []api.Key
	for a := range l.all() {
		for _, c := range a.claims {
			if c.ahead == nil { // each queue has one that is the first
				out = append(out, c.of.lock.Key)
			}
		}
	}
	slices.SortFunc(out, shard.Compare)
	return out
}

// Len is how many transactions have asked, and were not released.
func (l *Locks) Len() int {
	if !l.made() {
		return 0
	}
	return len(l.places)
}

// Clone is one with all of the same, that goes its own way.
func (l *Locks) Clone() *Locks {
	if !l.made() {
		return nil
	}
	c := New()
	for a := range l.all() { // who has a lock hangs on who asked ahead alone: so those that ask again in their order have the same
		var want []api.Lock
		for _, x := range a.claims {
			want = append(want, x.of.lock)
		}
		c.Request(a.txn, want...)
	}
	return c
}

// find is the transaction with that name, nil if it has not asked.
func (l *Locks) find(txn api.Id) *asker {
	if !l.made() || l.places[txn] == nil {
		return nil
	}
	return l.places[txn].of
}

// all goes through those that have asked, in the order in which they did; of locks that no call made there are none.
func (l *Locks) all() iter.Seq[*asker] {
	if !l.made() {
		return func(func(*asker) bool) {}
	}
	return l.askers.all()
}
