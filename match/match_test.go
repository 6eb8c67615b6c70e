package match_test

import (
	"math"
	"slices"
	"testing"

	"trivet/api"
	"trivet/match"
)

const maxTime = int64(api.MaxTime)

// seen is all that a book tells of itself.
type seen struct {
	length, agreed int64
	next, like     []int64 // of each of the group
	lagging        []int
}

func (s seen) same(x seen) bool {
	return s.length == x.length && s.agreed == x.agreed && slices.Equal(s.next, x.next) && slices.Equal(s.like, x.like) && slices.Equal(s.lagging, x.lagging)
}

func look(m *match.Match, n int) seen {
	s := seen{length: m.Length(), agreed: m.Agreed(), lagging: slices.Collect(m.Lagging())}
	for i := range n {
		s.next = append(s.next, m.Next(i))
		s.like = append(s.like, m.Like(i))
	}
	return s
}

// is fails the test, unless m tells just what is wanted.
func is(t *testing.T, m *match.Match, want seen) {
	t.Helper()
	if s := look(m, len(want.next)); !s.same(want) {
		t.Errorf("%+v, not %+v", s, want)
	}
}

func made(t *testing.T, n, self int, length int64) *match.Match {
	t.Helper()
	m, e := match.New(api.Conf{N: n, Self: self}, length)
	if m == nil || e != api.OK {
		t.Fatal("New:", m, e)
	}
	return m
}

// book is that of the first one of three, of the length 9: of the second one next is 6, and like 4; of the third one next is 9, and like 2.
func book(t *testing.T) *match.Match {
	t.Helper()
	m := made(t, 3, 0, 9)
	told(t, m, 1, true, 4, true)
	told(t, m, 2, true, 2, false)
	told(t, m, 1, false, 6, false)
	is(t, m, bookSeen())
	return m
}

func bookSeen() seen {
	return seen{length: 9, agreed: 4, next: []int64{9, 6, 9}, like: []int64{9, 4, 2}, lagging: []int{1, 2}}
}

// told fails the test, unless Told answers OK and what is wanted.
func told(t *testing.T, m *match.Match, i int, yes bool, slot int64, want bool) {
	t.Helper()
	if got, e := m.Told(i, yes, slot); got != want || e != api.OK {
		t.Error("Told", i, yes, slot, "answers", got, e)
	}
}

func same[T comparable](t *testing.T, got, want T) {
	t.Helper()
	if got != want {
		t.Error(got, "not", want)
	}
}

// The chapter's example.
func TestExample(t *testing.T) {
	m := made(t, 3, 0, 5)
	same(t, m.Next(1), 5)
	same(t, m.Like(1), 0)
	same(t, m.Agreed(), 0)
	told(t, m, 1, false, 2, false)
	same(t, m.Next(1), 2)
	told(t, m, 1, true, 4, true)
	same(t, m.Like(1), 4)
	same(t, m.Agreed(), 4)
	is(t, m, seen{length: 5, agreed: 4, next: []int64{5, 4, 5}, like: []int64{5, 4, 0}, lagging: []int{1, 2}})
}

// P8.1: of what New makes a book, and of what it does not.
func TestNew(t *testing.T) {
	for _, x := range []struct {
		n, self int
		length  int64
		e       api.Errno
	}{
		{math.MinInt, 0, 0, api.ErrArg},
		{-1, 0, 0, api.ErrArg},
		{-1, -2, 0, api.ErrArg},
		{0, 0, 0, api.ErrArg},
		{0, -1, 0, api.ErrArg},
		{1, 0, 0, api.OK},
		{api.MaxReplicas, 0, 0, api.OK},
		{api.MaxReplicas + 1, 0, 0, api.ErrArg},
		{math.MaxInt, 0, 0, api.ErrArg},
		{3, math.MinInt, 0, api.ErrArg},
		{3, -1, 0, api.ErrArg},
		{3, 0, 0, api.OK},
		{3, 2, 0, api.OK},
		{3, 3, 0, api.ErrArg},
		{3, 4, 0, api.ErrArg},
		{3, math.MaxInt, 0, api.ErrArg},
		{1, -1, 0, api.ErrArg},
		{1, 1, 0, api.ErrArg},
		{5, 4, 0, api.OK},
		{5, 5, 0, api.ErrArg},
		{3, 1, math.MinInt64, api.ErrArg},
		{3, 1, -1, api.ErrArg},
		{3, 1, 0, api.OK},
		{3, 1, 1, api.OK},
		{3, 1, maxTime, api.OK},
		{3, 1, maxTime + 1, api.ErrArg},
		{3, 1, math.MaxInt64, api.ErrArg},
	} {
		m, e := match.New(api.Conf{N: x.n, Self: x.self}, x.length)
		if e != x.e || (m == nil) != (e != api.OK) {
			t.Error(x, m, e)
		}
	}
}

// P8.1: a book begins with next of each other one at the length, and like 0, whichever of the group keeps it.
func TestNewBegins(t *testing.T) {
	for n := 1; n <= api.MaxReplicas; n++ {
		for self := range n {
			for _, length := range []int64{0, 1, 7, maxTime} {
				want := seen{length: length}
				for i := range n {
					want.next = append(want.next, length)
					switch {
					case i == self:
						want.like = append(want.like, length)
					case length > 0:
						want.like = append(want.like, 0)
						want.lagging = append(want.lagging, i)
					default:
						want.like = append(want.like, 0)
					}
				}
				if n == 1 {
					want.agreed = length
				}
				is(t, made(t, n, self, length), want)
			}
		}
	}
}

// P8.1, R2: Grow takes the length on, never back, and what is known of the others stays; an error changes nothing.
func TestGrow(t *testing.T) {
	for _, x := range []struct {
		length, to int64
		e          api.Errno
	}{
		{9, math.MinInt64, api.ErrArg},
		{9, -1, api.ErrArg},
		{9, 0, api.ErrArg},
		{9, 8, api.ErrArg},
		{9, 9, api.OK},
		{9, 10, api.OK},
		{9, 1000, api.OK},
		{9, maxTime, api.OK},
		{9, maxTime + 1, api.ErrArg},
		{9, math.MaxInt64, api.ErrArg},
		{0, -1, api.ErrArg},
		{0, 0, api.OK},
		{0, 1, api.OK},
		{maxTime, maxTime - 1, api.ErrArg},
		{maxTime, maxTime, api.OK},
		{maxTime, maxTime + 1, api.ErrArg},
	} {
		m := made(t, 3, 2, x.length)
		if x.length > 2 {
			told(t, m, 0, true, 1, true)
			told(t, m, 1, false, 2, false)
		}
		want := look(m, 3)
		same(t, m.Grow(x.to), x.e)
		if x.e == api.OK {
			want.length, want.next[2], want.like[2] = x.to, x.to, x.to
			if x.to > 0 {
				want.lagging = []int{0, 1}
			}
		}
		is(t, m, want)
	}
}

// P8.1: Next and Like are of another one what is known of it, of itself the length, and 0 of one that there is not.
func TestNextAndLike(t *testing.T) {
	for n := 1; n <= api.MaxReplicas; n++ {
		for self := range n {
			m := made(t, n, self, 9)
			for i := range n {
				m.Told(i, true, int64(i)+1)
				m.Told(i, false, int64(i)+3)
			}
			for i := range n {
				if i == self {
					same(t, m.Next(i), 9)
					same(t, m.Like(i), 9)
				} else {
					same(t, m.Next(i), int64(i)+3)
					same(t, m.Like(i), int64(i)+1)
				}
			}
			for _, i := range []int{math.MinInt, math.MinInt32, -n, -1, n, n + 1, api.MaxReplicas, 1 << 20, math.MaxInt32, math.MaxInt} {
				same(t, m.Next(i), 0)
				same(t, m.Like(i), 0)
			}
		}
	}
}

// P8.2, R2: whom Sent may be about, and up to where; an error changes nothing.
func TestSent(t *testing.T) {
	for _, x := range []struct {
		i  int
		to int64
		e  api.Errno
	}{
		{math.MinInt, 7, api.ErrWho},
		{-1, 7, api.ErrWho},
		{-1, -1, api.ErrWho}, // the first that the chapter names
		{0, 9, api.ErrWho},
		{0, 10, api.ErrWho},
		{0, -1, api.ErrWho},
		{3, 7, api.ErrWho},
		{3, 10, api.ErrWho},
		{4, 7, api.ErrWho},
		{math.MaxInt, 7, api.ErrWho},
		{1, math.MinInt64, api.ErrArg},
		{1, -1, api.ErrArg},
		{1, 0, api.ErrArg},
		{1, 4, api.ErrArg}, // its like
		{1, 5, api.ErrArg},
		{1, 6, api.OK}, // its next
		{1, 7, api.OK},
		{1, 8, api.OK},
		{1, 9, api.OK}, // the length
		{1, 10, api.ErrArg},
		{1, maxTime, api.ErrArg},
		{1, math.MaxInt64, api.ErrArg},
		{2, 8, api.ErrArg},
		{2, 9, api.OK},
		{2, 10, api.ErrArg},
	} {
		m, want := book(t), bookSeen()
		same(t, m.Sent(x.i, x.to), x.e)
		if x.e == api.OK {
			want.next[x.i] = x.to
		}
		is(t, m, want)
	}
}

// P8.2: what was sent is not sent again, till an answer takes next back; behind Grow there is more to send.
func TestSentAgain(t *testing.T) {
	m := made(t, 2, 1, 0)
	same(t, m.Sent(0, 1), api.ErrArg)
	same(t, m.Sent(0, 0), api.OK)
	same(t, m.Grow(3), api.OK)
	same(t, m.Next(0), 0)
	same(t, m.Sent(0, 2), api.OK)
	same(t, m.Sent(0, 1), api.ErrArg)
	same(t, m.Sent(0, 3), api.OK)
	told(t, m, 0, false, 1, false)
	same(t, m.Next(0), 1)
	same(t, m.Sent(0, 3), api.OK)
	is(t, m, seen{length: 3, next: []int64{3, 3}, like: []int64{0, 3}, lagging: []int{0}})
}

// P8.2, R2: of whom and of what slots Told takes an answer, with yes and without, and what it does; an error changes nothing.
func TestTold(t *testing.T) {
	for _, x := range []struct {
		i          int
		yes        bool
		slot       int64
		more       bool
		e          api.Errno
		next, like int64 // of that one, behind it
	}{
		{i: math.MinInt, yes: true, slot: 5, e: api.ErrWho},
		{i: -1, yes: true, slot: 5, e: api.ErrWho},
		{i: -1, yes: false, slot: 5, e: api.ErrWho},
		{i: -1, yes: true, slot: -1, e: api.ErrWho}, // the first that the chapter names
		{i: 0, yes: true, slot: 5, e: api.ErrWho},
		{i: 0, yes: false, slot: 5, e: api.ErrWho},
		{i: 0, yes: true, slot: 10, e: api.ErrWho},
		{i: 0, yes: false, slot: -1, e: api.ErrWho},
		{i: 3, yes: true, slot: 5, e: api.ErrWho},
		{i: 3, yes: false, slot: 5, e: api.ErrWho},
		{i: 3, yes: true, slot: 10, e: api.ErrWho},
		{i: 4, yes: true, slot: 5, e: api.ErrWho},
		{i: math.MaxInt, yes: false, slot: 5, e: api.ErrWho},

		{i: 1, yes: true, slot: math.MinInt64, e: api.ErrArg},
		{i: 1, yes: true, slot: -1, e: api.ErrArg},
		{i: 1, yes: true, slot: 0, next: 6, like: 4},
		{i: 1, yes: true, slot: 3, next: 6, like: 4},
		{i: 1, yes: true, slot: 4, next: 6, like: 4}, // its like
		{i: 1, yes: true, slot: 5, next: 6, like: 5, more: true},
		{i: 1, yes: true, slot: 6, next: 6, like: 6, more: true}, // its next
		{i: 1, yes: true, slot: 7, next: 7, like: 7, more: true},
		{i: 1, yes: true, slot: 8, next: 8, like: 8, more: true},
		{i: 1, yes: true, slot: 9, next: 9, like: 9, more: true}, // the length
		{i: 1, yes: true, slot: 10, e: api.ErrArg},
		{i: 1, yes: true, slot: maxTime, e: api.ErrArg},
		{i: 1, yes: true, slot: math.MaxInt64, e: api.ErrArg},

		{i: 1, yes: false, slot: math.MinInt64, e: api.ErrArg},
		{i: 1, yes: false, slot: -1, e: api.ErrArg},
		{i: 1, yes: false, slot: 0, next: 4, like: 4},
		{i: 1, yes: false, slot: 3, next: 4, like: 4},
		{i: 1, yes: false, slot: 4, next: 4, like: 4},
		{i: 1, yes: false, slot: 5, next: 5, like: 4},
		{i: 1, yes: false, slot: 6, next: 6, like: 4},
		{i: 1, yes: false, slot: 7, next: 6, like: 4},
		{i: 1, yes: false, slot: 9, next: 6, like: 4},
		{i: 1, yes: false, slot: 10, next: 6, like: 4}, // above the length: its log is longer, say
		{i: 1, yes: false, slot: maxTime, next: 6, like: 4},
		{i: 1, yes: false, slot: maxTime + 1, next: 6, like: 4},
		{i: 1, yes: false, slot: math.MaxInt64, next: 6, like: 4},

		{i: 2, yes: true, slot: 1, next: 9, like: 2},
		{i: 2, yes: true, slot: 2, next: 9, like: 2},
		{i: 2, yes: true, slot: 3, next: 9, like: 3},
		{i: 2, yes: true, slot: 4, next: 9, like: 4}, // Agreed, which all of the three have now
		{i: 2, yes: true, slot: 5, next: 9, like: 5, more: true},
		{i: 2, yes: true, slot: 9, next: 9, like: 9, more: true},
		{i: 2, yes: true, slot: 10, e: api.ErrArg},
		{i: 2, yes: false, slot: 9, next: 9, like: 2},
		{i: 2, yes: false, slot: 8, next: 8, like: 2},
		{i: 2, yes: false, slot: 2, next: 2, like: 2},
		{i: 2, yes: false, slot: 1, next: 2, like: 2},
	} {
		m, want := book(t), bookSeen()
		more, e := m.Told(x.i, x.yes, x.slot)
		if more != x.more || e != x.e {
			t.Error(x, "answers", more, e)
		}
		if x.e == api.OK {
			want.next[x.i], want.like[x.i] = x.next, x.like
			if x.more {
				want.agreed = x.slot
			}
			if x.like == 9 {
				want.lagging = []int{3 - x.i}
			}
		}
		is(t, m, want)
	}
}

// P8.2, P8.4: an answer that comes late, or twice, takes nothing back that is known.
func TestToldLate(t *testing.T) {
	m := made(t, 3, 1, 9)
	told(t, m, 0, true, 7, true)
	for range 2 {
		for slot := int64(0); slot <= 7; slot++ {
			told(t, m, 0, true, slot, false)
			same(t, m.Like(0), 7)
			same(t, m.Next(0), 9)
		}
	}
	for range 2 {
		for slot := int64(0); slot <= 7; slot++ {
			told(t, m, 0, false, slot, false)
			is(t, m, seen{length: 9, agreed: 7, next: []int64{7, 9, 9}, like: []int64{7, 9, 0}, lagging: []int{0, 2}})
		}
	}
	told(t, m, 0, true, 8, true)
	told(t, m, 0, true, 8, false)
	told(t, m, 0, false, 0, false)
	is(t, m, seen{length: 9, agreed: 8, next: []int64{8, 9, 9}, like: []int64{8, 9, 0}, lagging: []int{0, 2}})
}

// P8.3, P8.5: Agreed is what more than half of the group have, itself among them; a half is too few. Told tells just then that it is greater.
func TestAgreed(t *testing.T) {
	for _, x := range []struct {
		n      int
		likes  []int64 // of the others, one by one
		agreed []int64 // behind each of them
	}{
		{1, nil, nil},
		{2, []int64{5}, []int64{5}},
		{2, []int64{9}, []int64{9}},
		{3, []int64{5, 7}, []int64{5, 7}},
		{3, []int64{7, 5}, []int64{7, 7}},
		{3, []int64{5, 5}, []int64{5, 5}},
		{4, []int64{5, 5, 5}, []int64{0, 5, 5}}, // two of four are a half, three are more
		{4, []int64{9, 9, 9}, []int64{0, 9, 9}},
		{4, []int64{3, 6, 8}, []int64{0, 3, 6}},
		{4, []int64{8, 6, 3}, []int64{0, 6, 6}},
		{4, []int64{8, 3, 6}, []int64{0, 3, 6}},
		{5, []int64{5, 5, 5, 5}, []int64{0, 5, 5, 5}}, // three of five
		{5, []int64{2, 4, 6, 8}, []int64{0, 2, 4, 6}},
		{5, []int64{8, 6, 4, 2}, []int64{0, 6, 6, 6}},
		{5, []int64{4, 8, 2, 6}, []int64{0, 4, 4, 6}},
		{5, []int64{9, 1, 9, 1}, []int64{0, 1, 9, 9}},
	} {
		for self := range x.n {
			m := made(t, x.n, self, 9)
			was := int64(0)
			for k, like := range x.likes {
				told(t, m, (self+1+k)%x.n, true, like, x.agreed[k] > was)
				was = x.agreed[k]
				same(t, m.Agreed(), was)
			}
		}
	}
}

// P8.3: of a group of one Agreed is the length; of a greater one Grow does not change it.
func TestAgreedBehindGrow(t *testing.T) {
	m := made(t, 1, 0, 0)
	for _, length := range []int64{0, 1, 1, 8, maxTime} {
		same(t, m.Grow(length), api.OK)
		is(t, m, seen{length: length, agreed: length, next: []int64{length}, like: []int64{length}})
	}
	for n := 2; n <= api.MaxReplicas; n++ {
		m := made(t, n, 0, 3)
		same(t, m.Grow(5), api.OK)
		same(t, m.Agreed(), 0)
		for i := 1; i < n; i++ {
			told(t, m, i, true, 5, i == n/2)
		}
		same(t, m.Agreed(), 5)
		same(t, m.Grow(6), api.OK)
		same(t, m.Agreed(), 5)
		same(t, m.Grow(maxTime), api.OK)
		for i := 1; i < n; i++ {
			told(t, m, i, true, maxTime, i == n/2)
		}
		same(t, m.Agreed(), maxTime)
	}
}

// P8.3: Lagging tells the others whose like is below the length, rising, never itself; behind Grow all of them lag.
func TestLagging(t *testing.T) {
	lag := func(m *match.Match, want ...int) {
		t.Helper()
		if got := slices.Collect(m.Lagging()); !slices.Equal(got, want) {
			t.Error(got, "not", want)
		}
	}
	m := made(t, 5, 2, 0)
	lag(m)
	m.Grow(1)
	lag(m, 0, 1, 3, 4)
	m.Told(3, true, 1)
	lag(m, 0, 1, 4)
	m.Told(0, true, 1)
	lag(m, 1, 4)
	m.Told(1, true, 0)
	m.Sent(1, 1)
	m.Told(4, false, 0)
	lag(m, 1, 4)
	m.Told(4, true, 1)
	lag(m, 1)
	m.Told(1, true, 1)
	lag(m)
	m.Grow(1)
	lag(m)
	m.Grow(2)
	lag(m, 0, 1, 3, 4)
	m = made(t, 1, 0, 4)
	lag(m)
	m.Grow(5)
	lag(m)
}
