package vote_test

import (
	"fmt"
	"maps"
	"math/rand"
	"slices"
	"testing"

	"trivet/api"
	"trivet/vote"
)

// ballot is a vote that somebody gave in a term.
type ballot struct {
	from, to int
	term     int64
	yes      bool
}

// voter is a replica in a term.
type voter struct {
	who  int
	term int64
}

// group is replicas that ask each other for votes, whatever is done with what they ask and answer; it keeps what has ever been, and says what may not be.
type group struct {
	votes   []*vote.Vote
	logs    []api.Claim // of each its Length and Last
	asked   []api.Claim
	given   []ballot
	gave    map[voter]int
	winners map[int64]int
	terms   []int64
	wrong   []string
}

func newGroup(t *testing.T, term int64, logs ...api.Claim) *group {
	g := &group{logs: logs, gave: map[voter]int{}, winners: map[int64]int{}}
	for i := range logs {
		g.votes = append(g.votes, made(t, len(logs), i, term, -1))
		g.terms = append(g.terms, term)
	}
	return g
}

func (g *group) clone() *group {
	c := *g
	c.votes = nil
	for _, v := range g.votes {
		c.votes = append(c.votes, v.Clone())
	}
	c.logs, c.asked, c.given, c.terms = slices.Clone(g.logs), slices.Clone(g.asked), slices.Clone(g.given), slices.Clone(g.terms)
	c.gave, c.winners = maps.Clone(g.gave), maps.Clone(g.winners)
	return &c
}

func (g *group) fault(what ...any) { g.wrong = append(g.wrong, fmt.Sprintln(what...)) }

// gives keeps that a replica votes, once in a term.
func (g *group) gives(from, to int, term int64) {
	if was, ok := g.gave[voter{from, term}]; ok && was != to {
		g.fault(from, "voted twice in", term, "for", was, to)
	}
	g.gave[voter{from, term}] = to
}

func (g *group) stand(i int) {
	was := g.votes[i].Term()
	if g.votes[i].Stand() != api.OK {
		return
	}
	if g.votes[i].Term() != was+1 {
		g.fault(i, "stands in", g.votes[i].Term(), "behind", was)
	}
	x := g.logs[i]
	x.Who, x.Term = i, was+1
	g.gives(i, i, x.Term)
	g.asked = append(g.asked, x)
}

// ask lets a replica answer what was asked at some time.
func (g *group) ask(i int, x api.Claim) {
	own := g.logs[i]
	yes := g.votes[i].Grant(x, own.Length, own.Last)
	if !yes {
		g.given = append(g.given, ballot{i, x.Who, g.votes[i].Term(), false})
		return
	}
	if own.Last > x.Last || own.Last == x.Last && own.Length > x.Length {
		g.fault(i, own, "voted for", x)
	}
	if g.votes[i].Term() != x.Term || x.Who == i {
		g.fault(i, "of", g.votes[i].Term(), "voted for", x)
	}
	g.gives(i, x.Who, x.Term)
	g.given = append(g.given, ballot{i, x.Who, x.Term, true})
}

// tell lets a replica count what somebody answered it at some time.
func (g *group) tell(b ballot) {
	had := g.votes[b.to].Won()
	if g.votes[b.to].Count(b.from, b.term, b.yes) != (g.votes[b.to].Won() && !had) {
		g.fault(b, "did not tell whether it won by that")
	}
}

// restart is a crash and a return, with what layer 9 keeps.
func (g *group) restart(i int) {
	who, ok := g.votes[i].Voted()
	if !ok {
		who = -1
	}
	g.votes[i], _ = vote.New(api.Conf{N: len(g.votes), Self: i}, g.votes[i].Term(), who)
}

// check looks at each of them: who has won, by whose votes; no term has fallen.
func (g *group) check() {
	for i, v := range g.votes {
		if v.Term() < g.terms[i] {
			g.fault(i, "fell from", g.terms[i], "to", v.Term())
		}
		g.terms[i] = v.Term()
		if !v.Won() {
			continue
		}
		if was, ok := g.winners[v.Term()]; ok && was != i {
			g.fault(was, "and", i, "won in", v.Term())
		}
		g.winners[v.Term()] = i
		has := slices.Collect(v.Votes())
		for _, from := range has {
			if to, ok := g.gave[voter{from, v.Term()}]; !ok || to != i {
				g.fault(i, "has a vote of", from, "that gave it to", to, ok)
			}
		}
		if 2*len(has) <= len(g.votes) {
			g.fault(i, "won with", has)
		}
	}
}

// P7.5, P7.6, P7.7: drawn runs, in which what is asked and answered comes late, never, twice and in whatever order, logs grow and are cut, replicas crash, come back, and are clones of themselves.
func TestGroups(t *testing.T) {
	won := 0
	for seed := range int64(1000) {
		r := rand.New(rand.NewSource(seed))
		logs := make([]api.Claim, 1+r.Intn(api.MaxReplicas))
		for i := range logs {
			logs[i] = api.Claim{Length: r.Int63n(3), Last: r.Int63n(3)}
		}
		g := newGroup(t, []int64{0, 7, maxTime - 4}[r.Intn(3)], logs...)
		for step := range 400 {
			g.step(r)
			g.check()
			if len(g.wrong) > 0 {
				t.Fatal("seed", seed, "step", step, g.wrong)
			}
		}
		won += len(g.winners)
	}
	if won < 4000 {
		t.Error("few won:", won)
	}
}

func (g *group) step(r *rand.Rand) {
	i := r.Intn(len(g.votes))
	switch k := r.Intn(40); {
	case k < 2:
		g.stand(i)
	case k < 3:
		g.restart(i)
	case k < 4:
		g.votes[i] = g.votes[i].Clone()
	case k < 5:
		g.votes[i].Hear(g.terms[r.Intn(len(g.terms))])
	case k < 6:
		g.logs[i] = api.Claim{Length: max(0, g.logs[i].Length+r.Int63n(3)-1), Last: max(0, g.logs[i].Last+r.Int63n(3)-1)}
	case k < 22 && len(g.asked) > 0:
		if x := g.asked[late(r, len(g.asked))]; x.Who != i {
			g.ask(i, x)
		}
	case len(g.given) > 0:
		g.tell(g.given[late(r, len(g.given))])
	}
}

// late draws one of n, most of the time one of the last ones.
func late(r *rand.Rand, n int) int {
	if r.Intn(10) == 0 {
		return r.Intn(n)
	}
	return n - 1 - r.Intn(min(n, 4))
}

// P7.5, P7.6, P7.7: all runs of small groups, up to a term: whoever stands, whatever that was ever asked or answered arrives, as often as it may, and whoever crashes.
func TestAllRuns(t *testing.T) {
	alike := slices.Repeat([]api.Claim{{Length: 2, Last: 1}}, 5)
	ahead := []api.Claim{{Length: 3, Last: 1}, {Length: 2, Last: 1}, {Length: 1, Last: 2}}
	for _, x := range []struct {
		logs []api.Claim
		most int64
	}{{alike[:1], 4}, {alike[:2], 3}, {ahead[:2], 3}, {alike[:3], 2}, {ahead, 2}, {alike[:4], 1}, {alike, 1}} {
		g := newGroup(t, 0, x.logs...)
		known, open, won := map[string]bool{g.key(): true}, []*group{g}, 0
		for len(open) > 0 {
			g = open[len(open)-1]
			open = open[:len(open)-1]
			for _, h := range g.onward(x.most) {
				h.check()
				if len(h.wrong) > 0 {
					t.Fatal(x, h.wrong)
				}
				if k := h.key(); !known[k] {
					known[k] = true
					open = append(open, h)
					won = max(won, len(h.winners))
				}
			}
		}
		same(t, int64(won), x.most) // in some run somebody wins in each term
	}
}

// key tells states apart: what they are, and what has ever been asked, given and won.
func (g *group) key() string {
	var b []byte
	for i, v := range g.votes {
		who, ok := v.Voted()
		b = append(b, byte(v.Term()), byte(who), bit(ok), bit(v.Standing()))
		for from := range v.Votes() {
			b = append(b, 100+byte(from))
		}
		for term := range v.Term() + 1 {
			to, ok := g.gave[voter{i, term}]
			b = append(b, byte(to), bit(ok))
		}
	}
	for _, term := range slices.Sorted(maps.Keys(g.winners)) {
		b = append(b, byte(term), byte(g.winners[term]))
	}
	for _, x := range g.asked {
		b = append(b, 50+byte(x.Who), byte(x.Term))
	}
	return string(b)
}

func bit(b bool) byte {
	if b {
		return 1
	}
	return 0
}

// onward is all that may come next.
func (g *group) onward(most int64) (l []*group) {
	add := func(do func(h *group)) {
		h := g.clone()
		do(h)
		h.settle()
		l = append(l, h)
	}
	for i, v := range g.votes {
		if v.Term() < most {
			add(func(h *group) { h.stand(i) })
		}
		if v.Standing() {
			add(func(h *group) { h.restart(i) })
		}
		for _, x := range g.asked {
			if x.Who != i && x.Term >= v.Term() {
				add(func(h *group) { h.ask(i, x) })
			}
		}
	}
	for _, b := range g.given {
		if g.votes[b.to].Term() == b.term {
			add(func(h *group) { h.tell(b) })
		}
	}
	return l
}

// settle puts what was asked and given into one order, each once, so that states that differ in nothing else are the same. A no is told at once, and done with: it may change nothing.
func (g *group) settle() {
	for _, b := range g.given {
		if !b.yes {
			g.tell(b)
		}
	}
	g.given = slices.DeleteFunc(g.given, func(b ballot) bool { return !b.yes })
	slices.SortFunc(g.asked, func(a, b api.Claim) int { return int(a.Term-b.Term)*10 + a.Who - b.Who })
	slices.SortFunc(g.given, func(a, b ballot) int { return int(a.term-b.term)*100 + (a.from-b.from)*10 + a.to - b.to })
	g.asked, g.given = slices.Compact(g.asked), slices.Compact(g.given)
}
