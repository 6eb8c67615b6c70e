package match_test

import (
	"fmt"
	"maps"
	"math"
	"math/rand"
	"testing"

	"trivet/api"
	"trivet/match"
)

// model is what the chapter says, word by word.
type model struct {
	n, self    int
	length     int64
	next, like map[int]int64 // of the others
}

func modelOf(n, self int, length int64) model {
	m := model{n, self, length, map[int]int64{}, map[int]int64{}}
	for i := range n {
		if i != self {
			m.next[i], m.like[i] = length, 0
		}
	}
	return m
}

func (m model) clone() model {
	m.next, m.like = maps.Clone(m.next), maps.Clone(m.like)
	return m
}

// many is how many of the group have a like of at least length.
func (m model) many(length int64) int {
	n := 0
	if m.length >= length {
		n++
	}
	for _, like := range m.like {
		if like >= length {
			n++
		}
	}
	return n
}

func (m model) agreed() int64 {
	a := int64(0)
	if 2*m.many(m.length) > m.n {
		a = m.length
	}
	for _, like := range m.like { // no other length is the greatest that so many have
		if like > a && 2*m.many(like) > m.n {
			a = like
		}
	}
	return a
}

func (m model) seen() seen {
	s := seen{length: m.length, agreed: m.agreed()}
	for i := range m.n {
		if i == m.self {
			s.next, s.like = append(s.next, m.length), append(s.like, m.length)
			continue
		}
		s.next, s.like = append(s.next, m.next[i]), append(s.like, m.like[i])
		if m.like[i] < m.length {
			s.lagging = append(s.lagging, i)
		}
	}
	return s
}

func (m *model) grow(length int64) api.Errno {
	if length < m.length || length > maxTime {
		return api.ErrArg
	}
	m.length = length
	return api.OK
}

func (m *model) sent(i int, to int64) api.Errno {
	next, ok := m.next[i]
	if !ok {
		return api.ErrWho
	}
	if to < next || to > m.length {
		return api.ErrArg
	}
	m.next[i] = to
	return api.OK
}

func (m *model) told(i int, yes bool, slot int64) (bool, api.Errno) {
	if _, ok := m.like[i]; !ok {
		return false, api.ErrWho
	}
	if slot < 0 {
		return false, api.ErrArg
	}
	if yes {
		if slot > m.length {
			return false, api.ErrArg
		}
		was := m.agreed()
		if slot > m.like[i] {
			m.like[i] = slot
			if m.next[i] < slot {
				m.next[i] = slot
			}
		}
		return m.agreed() > was, api.OK
	}
	if slot < m.next[i] {
		m.next[i] = slot
		if m.like[i] > slot {
			m.next[i] = m.like[i]
		}
	}
	return false, api.OK
}

// call is one call of a book and of the model; it answers what each of them did.
type call struct {
	kind, i int
	yes     bool
	slot    int64
}

const (
	grow = iota
	sent
	tell
)

type answer struct {
	more bool
	e    api.Errno
}

func (c call) do(m *match.Match) (a answer) {
	switch c.kind {
	case grow:
		a.e = m.Grow(c.slot)
	case sent:
		a.e = m.Sent(c.i, c.slot)
	default:
		a.more, a.e = m.Told(c.i, c.yes, c.slot)
	}
	return a
}

func (c call) model(m *model) (a answer) {
	switch c.kind {
	case grow:
		a.e = m.grow(c.slot)
	case sent:
		a.e = m.sent(c.i, c.slot)
	default:
		a.more, a.e = m.told(c.i, c.yes, c.slot)
	}
	return a
}

// calls is all calls about some slots in a group of n, with what may not be on both sides.
func calls(n int, slots ...int64) []call {
	var l []call
	for _, slot := range append(slots, -1, maxTime+1) {
		l = append(l, call{kind: grow, slot: slot})
		for i := -1; i <= n; i++ {
			l = append(l, call{sent, i, false, slot}, call{tell, i, true, slot}, call{tell, i, false, slot})
		}
	}
	return l
}

// holds says what of P8.4, P8.5 and the chapter's words does not hold of a book that has told was, and tells s now.
func holds(was, s seen) string {
	atLeast, above := 0, 0
	for i, like := range s.like {
		if like >= s.agreed {
			atLeast++
		}
		if like > s.agreed {
			above++
		}
		if like < 0 || like > s.next[i] || s.next[i] > s.length {
			return fmt.Sprint("like is above next, or next above the length, of ", i)
		}
		if like < was.like[i] {
			return fmt.Sprint("like falls, of ", i)
		}
	}
	switch {
	case s.length < was.length:
		return "the length falls"
	case s.agreed < was.agreed:
		return "Agreed falls"
	case 2*atLeast <= len(s.like):
		return "no majority has Agreed"
	case 2*above > len(s.like):
		return "a majority has more than Agreed"
	}
	return ""
}

// P8.1 to P8.5, R1, R2: from each state that there is within some slots, each call answers what the model does, and comes to the same.
func TestAllStates(t *testing.T) {
	for n := 1; n <= api.MaxReplicas; n++ {
		for self := range n {
			slots := []int64{0, 1, 2, 3, 4, 5, 6, 7}[:9-n]
			allStates(t, n, self, slots[:len(slots)-1], slots...)
			if n < 4 {
				allStates(t, n, self, []int64{maxTime - 1, maxTime}, 0, 1, maxTime-1, maxTime)
			}
		}
	}
}

type state struct {
	m  *match.Match
	as model
}

// key tells a state from others of its group.
func (s state) key() (k [2*api.MaxReplicas + 1]int64) {
	k[0] = s.as.length
	for i, next := range s.as.next {
		k[2*i+1], k[2*i+2] = next, s.as.like[i]
	}
	return k
}

// allStates goes from books of some lengths to all that the calls about some slots lead to; those longer than the last of the lengths are looked at, and not gone on from.
func allStates(t *testing.T, n, self int, lengths []int64, slots ...int64) {
	t.Helper()
	known := map[[2*api.MaxReplicas + 1]int64]bool{}
	var open []state
	add := func(s state) {
		if k := s.key(); !known[k] && s.as.length <= lengths[len(lengths)-1] {
			known[k] = true
			open = append(open, s)
		}
	}
	for _, length := range lengths {
		add(state{made(t, n, self, length), modelOf(n, self, length)})
	}
	l := calls(n, slots...)
	for len(open) > 0 && !t.Failed() {
		s := open[0]
		open = open[1:]
		was := s.as.seen()
		for _, c := range l {
			m, as := s.m.Clone(), s.as.clone()
			got, want := c.do(m), c.model(&as)
			now := look(m, n)
			if fault := holds(was, now); fault != "" {
				t.Errorf("%d of %d, %+v: %+v: %s", self, n, was, c, fault)
			}
			if got != want || !now.same(as.seen()) {
				t.Errorf("%d of %d, %+v: %+v: %v, not %v: %+v, not %+v", self, n, was, c, got, want, now, as.seen())
			}
			if got.e != api.OK && !now.same(was) {
				t.Errorf("%d of %d, %+v: %+v: an error changed it", self, n, was, c)
			}
			add(state{m, as})
		}
		if !look(s.m, n).same(was) {
			t.Errorf("%d of %d, %+v: what was done to its clones changed it", self, n, was)
		}
	}
	if want := among(n-1, lengths, slots); len(known) != want {
		t.Errorf("%d of %d: %d states, not %d", self, n, len(known), want)
	}
}

// among is how many states there are: for each length as many as others can have a like and a next among the slots up to it.
func among(others int, lengths, slots []int64) int {
	all := 0
	for _, length := range lengths {
		k := 0
		for _, slot := range slots {
			if slot <= length {
				k++
			}
		}
		one := 1
		for range others {
			one *= k * (k + 1) / 2
		}
		all += one
	}
	return all
}

// P8.1 to P8.5, R1, R6: long runs of drawn calls, with numbers of all sizes; two runs of the same calls come to the same.
func TestDrawnCalls(t *testing.T) {
	for seed := range int64(400) {
		r := rand.New(rand.NewSource(seed))
		n := 1 + r.Intn(api.MaxReplicas)
		self, length := r.Intn(n), []int64{0, 5, 1000, maxTime - 60, maxTime}[r.Intn(5)]
		m, w, as := made(t, n, self, length), made(t, n, self, length), modelOf(n, self, length)
		for step := range 200 {
			was := as.seen()
			c := drawn(r, as)
			got, again, want := c.do(m), c.do(w), c.model(&as)
			now := look(m, n)
			if got != want || again != got || !now.same(as.seen()) || !look(w, n).same(now) {
				t.Fatalf("seed %d, step %d: %+v: %v, not %v: %+v, not %+v", seed, step, c, got, want, now, as.seen())
			}
			if fault := holds(was, now); fault != "" {
				t.Fatalf("seed %d, step %d: %+v: %s", seed, step, c, fault)
			}
		}
	}
}

func drawn(r *rand.Rand, m model) call {
	i := r.Intn(m.n+2) - 1
	near := []int64{0, m.length, m.next[i], m.like[i], m.agreed(), r.Int63n(m.length + 1), r.Int63n(m.length + 1)}
	slot := near[r.Intn(len(near))] + int64(r.Intn(3)) - 1
	if r.Intn(20) == 0 {
		slot = []int64{math.MinInt64, -1, maxTime, maxTime + 1, math.MaxInt64}[r.Intn(5)]
	}
	switch k := r.Intn(10); {
	case k == 0:
		return call{kind: grow, slot: m.length + int64(r.Intn(4)) - 1}
	case k == 1 && slot < maxTime:
		return call{kind: grow, slot: slot}
	case k < 4:
		return call{sent, i, false, slot}
	}
	return call{tell, i, r.Intn(3) > 0, slot}
}
