package vote_test

import (
	"fmt"
	"maps"
	"math"
	"math/rand"
	"slices"
	"testing"

	"trivet/api"
	"trivet/vote"
)

// model is what the chapter says, word by word.
type model struct {
	n, self  int
	term     int64
	to       map[int]bool // to whom its vote is given: one, or nobody
	standing bool
	votes    map[int]bool
}

func modelOf(n, self int, term int64, voted int) model {
	m := model{n: n, self: self, term: term, to: map[int]bool{}, votes: map[int]bool{}}
	if voted >= 0 {
		m.to[voted] = true
	}
	return m
}

func (m model) clone() model {
	m.to, m.votes = maps.Clone(m.to), maps.Clone(m.votes)
	return m
}

func (m model) other(who int) bool {
	return slices.Contains([]int{0, 1, 2, 3, 4}[:m.n], who) && who != m.self
}

func (m model) won() bool { return m.standing && len(m.votes)+len(m.votes) > m.n }

func (m model) seen() seen {
	s := seen{term: m.term, voted: -1, standing: m.standing, won: m.won(), votes: slices.Sorted(maps.Keys(m.votes))}
	for who := range m.to {
		s.voted = who
	}
	return s
}

func (m *model) hear(term int64) bool {
	if term > m.term && term <= maxTime {
		*m = modelOf(m.n, m.self, term, -1)
		return true
	}
	return false
}

func (m *model) grant(x api.Claim, length, last int64) bool {
	if !m.other(x.Who) || x.Term < 0 || x.Term > maxTime {
		return false
	}
	m.hear(x.Term)
	switch {
	case x.Term < m.term:
		return false
	case len(m.to) > 0 && !m.to[x.Who]:
		return false
	case last > x.Last:
		return false
	case last == x.Last && length > x.Length:
		return false
	}
	m.to[x.Who] = true
	return true
}

func (m *model) stand() api.Errno {
	if m.term == maxTime {
		return api.ErrLong
	}
	*m = modelOf(m.n, m.self, m.term+1, m.self)
	m.standing = true
	m.votes[m.self] = true
	return api.OK
}

func (m *model) count(who int, term int64, yes bool) bool {
	if m.standing && term == m.term && yes && m.other(who) && !m.votes[who] {
		had := m.won()
		m.votes[who] = true
		return m.won() != had
	}
	return false
}

// call is one call of a vote and of the model; it answers what each of them did.
type call struct {
	name string
	do   func(v *vote.Vote, m *model) (any, any)
}

func hears(term int64) call {
	return call{fmt.Sprint("Hear ", term), func(v *vote.Vote, m *model) (any, any) { return v.Hear(term), m.hear(term) }}
}

func grants(x api.Claim, length, last int64) call {
	return call{fmt.Sprint("Grant ", x, length, last), func(v *vote.Vote, m *model) (any, any) { return v.Grant(x, length, last), m.grant(x, length, last) }}
}

func counts(who int, term int64, yes bool) call {
	return call{fmt.Sprint("Count ", who, term, yes), func(v *vote.Vote, m *model) (any, any) { return v.Count(who, term, yes), m.count(who, term, yes) }}
}

func standsUp() call {
	return call{"Stand", func(v *vote.Vote, m *model) (any, any) { return v.Stand(), m.stand() }}
}

// restarts is a crash: what was kept is its term and its vote.
func restarts() call {
	return call{"New", func(v *vote.Vote, m *model) (any, any) {
		who, ok := v.Voted()
		if !ok {
			who = -1
		}
		w, e := vote.New(api.Conf{N: m.n, Self: m.self}, v.Term(), who)
		*v = *w
		*m = modelOf(m.n, m.self, m.term, m.seen().voted)
		return e, api.OK
	}}
}

// calls is all calls about some terms in a group of n, with what may not be on both sides.
func calls(n int, terms ...int64) []call {
	l := []call{standsUp(), restarts()}
	for _, term := range append(terms, -1, maxTime+1) {
		l = append(l, hears(term))
		for who := -1; who <= n; who++ {
			l = append(l, counts(who, term, true), counts(who, term, false))
			for _, x := range []api.Claim{{Length: 5, Last: 3}, {Length: 6, Last: 3}, {Length: 4, Last: 3}, {Length: 9, Last: 2}, {Length: 1, Last: 4}} {
				x.Who, x.Term = who, term
				l = append(l, grants(x, 5, 3))
			}
		}
	}
	return l
}

// P7.1 to P7.4, P7.7, R1: from each state that there is within some terms, each call answers what the model does, and comes to the same.
func TestAllStates(t *testing.T) {
	for _, terms := range [][]int64{{0, 1, 2}, {maxTime - 1, maxTime}} {
		for n := 1; n <= api.MaxReplicas; n++ {
			l := calls(n, terms...)
			for self := range n {
				allStates(t, l, n, self, terms)
			}
		}
	}
}

type state struct {
	v *vote.Vote
	m model
}

func allStates(t *testing.T, l []call, n, self int, terms []int64) {
	t.Helper()
	known := map[string]bool{}
	var open []state
	add := func(s state) {
		if k := fmt.Sprint(s.m.seen()); !known[k] && s.m.term <= terms[len(terms)-1] {
			known[k] = true
			open = append(open, s)
		}
	}
	for voted := -1; voted < n; voted++ {
		add(state{made(t, n, self, terms[0], voted), modelOf(n, self, terms[0], voted)})
	}
	for len(open) > 0 && !t.Failed() {
		s := open[0]
		open = open[1:]
		for _, c := range l {
			v, m := s.v.Clone(), s.m.clone()
			got, want := c.do(v, &m)
			if got != want || !look(t, v).same(m.seen()) || v.Term() < s.m.term {
				t.Errorf("%d of %d, %+v: %s: %v, not %v: %+v, not %+v", self, n, s.m.seen(), c.name, got, want, look(t, v), m.seen())
			}
			if !look(t, s.v).same(s.m.seen()) {
				t.Errorf("%d of %d: %s of a clone changed it", self, n, c.name)
			}
			add(state{v, m})
		}
	}
	if len(known) < len(terms)*(n+1) {
		t.Error("few states:", len(known))
	}
}

// P7.1 to P7.4, P7.7, R1, R6: long runs of drawn calls, with numbers of all sizes; two runs of the same calls come to the same.
func TestDrawnCalls(t *testing.T) {
	for seed := range int64(300) {
		r := rand.New(rand.NewSource(seed))
		n := 1 + r.Intn(api.MaxReplicas)
		self, term := r.Intn(n), []int64{0, 5, maxTime - 6, maxTime}[r.Intn(4)]
		voted := r.Intn(n+1) - 1
		v, w, m := made(t, n, self, term, voted), made(t, n, self, term, voted), modelOf(n, self, term, voted)
		for step := range 200 {
			c, was, twin := drawn(r, m), m.term, m.clone()
			got, want := c.do(v, &m)
			again, _ := c.do(w, &twin)
			if got != want || again != got || !look(t, v).same(m.seen()) || !look(t, w).same(m.seen()) || v.Term() < was {
				t.Fatalf("seed %d, step %d: %s: %v, not %v: %+v, not %+v", seed, step, c.name, got, want, look(t, v), m.seen())
			}
		}
	}
}

func drawn(r *rand.Rand, m model) call {
	number := func() int64 {
		return []int64{math.MinInt64, -1, 0, m.term - 1, m.term, m.term, m.term, m.term, m.term + 1, maxTime, maxTime + 1, math.MaxInt64}[r.Intn(12)]
	}
	near := func() int64 { return m.term + []int64{-1, 0, 0, 0, 0, 1}[r.Intn(6)] }
	who := r.Intn(m.n+2) - 1
	switch r.Intn(8) {
	case 0:
		return standsUp()
	case 1:
		return restarts()
	case 2:
		return hears(near())
	case 3, 4:
		return grants(api.Claim{Who: who, Term: near(), Length: number(), Last: number()}, number(), number())
	case 5:
		if r.Intn(20) == 0 {
			return hears(number())
		}
		fallthrough
	default:
		return counts(who, near(), r.Intn(5) > 0)
	}
}
