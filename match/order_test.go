package match_test

import (
	"math/rand"
	"slices"
	"testing"

	"trivet/api"
	"trivet/match"
)

// orders goes through all orders of a list's parts, a new list each.
func orders(l []call) func(yield func([]call) bool) {
	return func(yield func([]call) bool) {
		if len(l) == 0 {
			yield(nil)
			return
		}
		for i, c := range l {
			rest := slices.Delete(slices.Clone(l), i, i+1)
			for o := range orders(rest) {
				if !yield(append([]call{c}, o...)) {
					return
				}
			}
		}
	}
}

// comesTo is Like of all and Agreed behind some calls of a book of its own.
func comesTo(t *testing.T, n, self int, length int64, l []call) ([]int64, int64) {
	t.Helper()
	m := made(t, n, self, length)
	for _, c := range l {
		c.do(m)
	}
	s := look(m, n)
	return s.like, s.agreed
}

// P8.6: some things, told in all orders that there are, with what was sent and how the log grew among them.
func TestAllOrders(t *testing.T) {
	for _, x := range []struct {
		n      int
		l      []call
		like   []int64
		agreed int64
	}{
		{2, []call{{tell, 1, true, 3}, {tell, 1, true, 3}, {tell, 1, false, 1}, {tell, 1, true, 2}, {sent, 1, false, 4}}, []int64{6, 3}, 3},
		{3, []call{{tell, 1, true, 5}, {tell, 1, false, 0}, {tell, 2, true, 4}, {tell, 2, true, 1}, {tell, 2, false, 3}, {grow, 0, false, 8}}, []int64{8, 5, 4}, 5},
		{4, []call{{tell, 1, true, 6}, {tell, 2, true, 2}, {tell, 3, true, 3}, {tell, 1, false, 6}, {tell, 3, true, 0}, {sent, 2, false, 6}}, []int64{6, 6, 2, 3}, 3},
		{5, []call{{tell, 1, true, 6}, {tell, 2, true, 2}, {tell, 3, true, 3}, {tell, 4, true, 1}, {tell, 4, false, 2}, {tell, 2, true, 4}, {tell, 5, true, 6}}, []int64{6, 6, 4, 3, 1}, 4},
	} {
		many := 0
		for l := range orders(x.l) {
			many++
			like, agreed := comesTo(t, x.n, 0, 6, l)
			if !slices.Equal(like, x.like) || agreed != x.agreed {
				t.Fatal(l, like, agreed)
			}
		}
		if many < 120 {
			t.Error("few orders:", many)
		}
	}
}

// P8.6: drawn things, in drawn orders, some of them told twice, and with what was sent among them.
func TestDrawnOrders(t *testing.T) {
	for seed := range int64(300) {
		r := rand.New(rand.NewSource(seed))
		n := 1 + r.Intn(api.MaxReplicas)
		self, length := r.Intn(n), r.Int63n(30)
		var l []call
		for range r.Intn(40) {
			l = append(l, call{tell, r.Intn(n), r.Intn(2) == 0, r.Int63n(length + 1)})
		}
		like, agreed := comesTo(t, n, self, length, l)
		for range 20 {
			o := slices.Clone(l)
			for range r.Intn(10) {
				if len(l) > 0 {
					o = append(o, l[r.Intn(len(l))])
				}
				o = append(o, call{sent, r.Intn(n), false, r.Int63n(length + 1)})
			}
			r.Shuffle(len(o), func(a, b int) { o[a], o[b] = o[b], o[a] })
			if k, a := comesTo(t, n, self, length, o); !slices.Equal(k, like) || a != agreed {
				t.Fatalf("seed %d: %v: %v %d, not %v %d", seed, o, k, a, like, agreed)
			}
		}
	}
}

// P8.2, P8.6: in whatever order things are told, each step up of Agreed is told of once, just when it is made.
func TestEachStepIsTold(t *testing.T) {
	l := []call{{tell, 0, true, 2}, {tell, 2, true, 5}, {tell, 3, true, 4}, {tell, 4, true, 5}, {tell, 0, true, 5}, {tell, 3, false, 1}}
	for o := range orders(l) {
		m := made(t, 5, 1, 5)
		for _, c := range o {
			was := m.Agreed()
			if a := c.do(m); a.more != (m.Agreed() > was) || a.e != api.OK {
				t.Fatal(o, c, a, was, m.Agreed())
			}
		}
		same(t, m.Agreed(), 5)
	}
}

// group is a leader's log and those of the others, with what is under way between them, which may be lost, doubled and turned about.
type group struct {
	m    *match.Match
	logs [][]int // the leader's is the first
	ways []message
}

// message is a piece of the leader's log to another one, with all that is ahead of it; or the answer.
type message struct {
	i      int
	answer bool
	yes    bool
	slot   int64
	ahead  []int
	list   []int
}

func (g *group) send(r *rand.Rand, i int) {
	from := g.m.Next(i)
	to := from + r.Int63n(g.m.Length()-from+1)
	g.m.Sent(i, to)
	g.ways = append(g.ways, message{i: i, slot: from, ahead: slices.Clone(g.logs[0][:from]), list: slices.Clone(g.logs[0][from:to])})
}

// alike is up to where two logs are the same.
func alike(a, b []int) int64 {
	k := 0
	for k < len(a) && k < len(b) && a[k] == b[k] {
		k++
	}
	return int64(k)
}

// take is what another one does with a piece: it has it from then on, or tells from where on to try again.
func (g *group) take(x message) {
	own := g.logs[x.i]
	k := alike(own, x.ahead)
	if k < x.slot {
		g.ways = append(g.ways, message{i: x.i, answer: true, slot: max(k, x.slot-2)})
		return
	}
	end := x.slot + int64(len(x.list))
	if k = x.slot + alike(own[x.slot:], x.list); k < end {
		g.logs[x.i] = append(slices.Clone(own[:k]), x.list[k-x.slot:]...)
	}
	g.ways = append(g.ways, message{i: x.i, answer: true, yes: true, slot: end})
}

// pass does what is to be done with the message at a place of those under way.
func (g *group) pass(t *testing.T, at int) {
	t.Helper()
	x := g.ways[at]
	g.ways = slices.Delete(g.ways, at, at+1)
	if !x.answer {
		g.take(x)
		return
	}
	if _, e := g.m.Told(x.i, x.yes, x.slot); e != api.OK {
		t.Fatal("Told", x, e)
	}
}

// isTrue fails the test, unless what the book says is so.
func (g *group) isTrue(t *testing.T) {
	t.Helper()
	has := 0
	for i, l := range g.logs {
		k := alike(g.logs[0], l)
		if g.m.Like(i) > k {
			t.Fatal("like of", i, "is", g.m.Like(i), "but the logs are alike up to", k)
		}
		if k >= g.m.Agreed() {
			has++
		}
	}
	if 2*has <= len(g.logs) {
		t.Fatal("no majority has", g.m.Agreed())
	}
}

func drawnGroup(t *testing.T, r *rand.Rand) *group {
	t.Helper()
	g := &group{logs: make([][]int, 1+r.Intn(api.MaxReplicas))}
	for i := range g.logs {
		for range r.Intn(9) {
			g.logs[i] = append(g.logs[i], r.Intn(2))
		}
	}
	g.m = made(t, len(g.logs), 0, int64(len(g.logs[0])))
	return g
}

// P8.4, P8.5: a leader whose messages and answers come late, twice, in another order or not at all never believes more than is so; and when they come, all come to its log.
func TestGroups(t *testing.T) {
	for seed := range int64(300) {
		r := rand.New(rand.NewSource(seed))
		g := drawnGroup(t, r)
		n := len(g.logs)
		for range 200 {
			was := look(g.m, n)
			switch k := r.Intn(10); {
			case k == 0 && len(g.logs[0]) < 40:
				g.logs[0] = append(slices.Clone(g.logs[0]), 2+r.Intn(2))
				same(t, g.m.Grow(int64(len(g.logs[0]))), api.OK)
			case k < 4 && n > 1:
				g.send(r, 1+r.Intn(n-1))
			case k == 4 && len(g.ways) > 0:
				g.ways = append(g.ways, g.ways[r.Intn(len(g.ways))])
			case k == 5 && len(g.ways) > 0:
				at := r.Intn(len(g.ways))
				g.ways = slices.Delete(g.ways, at, at+1)
			case len(g.ways) > 0:
				g.pass(t, r.Intn(len(g.ways)))
			}
			g.isTrue(t)
			if fault := holds(was, look(g.m, n)); fault != "" {
				t.Fatal(seed, fault)
			}
		}
		g.comes(t, r)
	}
}

// comes lets all arrive, and asks again those that lag, till none does.
func (g *group) comes(t *testing.T, r *rand.Rand) {
	t.Helper()
	for round := 0; len(slices.Collect(g.m.Lagging())) > 0; round++ {
		if round > 500 {
			t.Fatal("these still lag:", slices.Collect(g.m.Lagging()))
		}
		for i := range g.m.Lagging() {
			if len(g.ways) < 100 {
				g.send(r, i)
			}
		}
		for len(g.ways) > 0 {
			g.pass(t, 0)
		}
		for i := range g.m.Lagging() { // what was sent and lost is sent again
			told(t, g.m, i, false, g.m.Like(i), false)
		}
		g.isTrue(t)
	}
	same(t, g.m.Agreed(), g.m.Length())
	for i := range g.logs {
		same(t, alike(g.logs[0], g.logs[i]), g.m.Length())
	}
}
