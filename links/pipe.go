package links

import (
	"iter"
	"slices"

	"trivet/api"
)

// pipe is what is under way from a replica to another one.
type pipe struct {
	cut  bool
	msgs []api.Msg // what these point to is never written to, and is handed out as a copy only: so pipes may share it
}

func (q *pipe) full() bool { return len(q.msgs) >= api.MaxPipe }

func (q *pipe) first() api.Msg { return q.msgs[0] }

func (q *pipe) put(m api.Msg) { q.msgs = append(q.msgs, m) }

// drop takes the first n away, as far as there are so many, and is how many it took.
func (q *pipe) drop(n int) int {
	n = max(0, min(n, len(q.msgs)))
	q.msgs = slices.Delete(q.msgs, 0, n)
	return n
}

func (q *pipe) clone() *pipe { return &pipe{cut: q.cut, msgs: slices.Clone(q.msgs)} }

func (l *Links) made() bool { return l != nil && l.pipes != nil }

// find is the pipe of a good pair.
func (l *Links) find(p api.Way) (*pipe, api.Errno) {
	if !l.made() {
		return nil, api.ErrMade
	}
	q := l.pipes[p]
	if q == nil {
		return nil, api.ErrArg
	}
	return q, api.OK
}

// findFilled is the pipe of a good pair, if it has a first message.
func (l *Links) findFilled(p api.Way) (*pipe, api.Errno) {
	q, e := l.find(p)
	switch {
	case e != api.OK:
		return nil, e
	case len(q.msgs) == 0:
		return nil, api.ErrNone
	}
	return q, api.OK
}

// both does something to the pipes of a good pair and of the one the other way round, which is as good.
func (l *Links) both(p api.Way, do func(*pipe)) api.Errno {
	q, e := l.find(p)
	if e != api.OK {
		return e
	}
	do(q)
	do(l.pipes[api.Way{From: p.To, To: p.From}])
	return api.OK
}

// pairs tells the good pairs of n replicas, by From, then by To.
func pairs(n int) iter.Seq[api.Way] {
	return func(yield func(api.Way) bool) {
		for from := range n {
			for to := range n {
				if from != to && !yield(api.Way{From: from, To: to}) {
					return
				}
			}
		}
	}
}
