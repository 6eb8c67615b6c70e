package locks

import "iter"

// line is things in the order in which they came. Any of them may leave, in a step that does not hang on how many there are.
type line[T any] struct{ first, last *spot[T] }

// spot is where one of them stands.
type spot[T any] struct {
	of            T
	ahead, behind *spot[T]
}

// join puts one to the end.
func (l *line[T]) join(of T) *spot[T] {
	s := &spot[T]{of: of, ahead: l.last}
	if s.ahead == nil {
		l.first = s
	} else {
		s.ahead.behind = s
	}
	l.last = s
	return s
}

// leave takes one out, which knows still whom it stood between.
func (l *line[T]) leave(s *spot[T]) {
	if s.ahead == nil {
		l.first = s.behind
	} else {
		s.ahead.behind = s.behind
	}
	if s.behind == nil {
		l.last = s.ahead
	} else {
		s.behind.ahead = s.ahead
	}
}

// all goes through them, from the first one on.
func (l *line[T]) all() iter.Seq[T] {
	return func(yield func(T) bool) {
		for s := l.first; s != nil; s = s.behind {
			if !yield(s.of) {
				return
			}
		}
	}
}
