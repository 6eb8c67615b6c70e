package replica_test

import (
	"math/rand"
	"slices"
	"testing"

	"trivet/api"
	"trivet/keeper"
)

// majority draws more than half of a group, in an order.
func (g *group) majority() []int {
	least := g.n/2 + 1
	return g.Perm(g.n)[:least+g.Intn(g.n-least+1)]
}

// quiet lets all that is under way among some arrive, and nothing else.
func (g *group) quiet(l []int) {
	for said := 0; len(g.wait) > 0; said++ {
		m := g.wait[0]
		if said == 2000 {
			g.fault("they go on and on:", m)
			return
		}
		g.wait = g.wait[1:]
		if slices.Contains(l, m.To) {
			g.done(m.To)(g.all[m.To].Step(m))
		}
	}
}

// round is a tick of each, one by one.
func (g *group) round(l []int) {
	for _, i := range l {
		g.tick(i)
		g.quiet(l)
	}
}

// leader is who leads and is known by all of them as the leader of its term; -1: nobody.
func (g *group) leader(l []int) int {
	for _, i := range l {
		if g.all[i].Role() != api.RoleLead {
			continue
		}
		want := api.Ballot{Round: g.all[i].Term(), Replica: i}
		knows := func(j int) bool { b, is := g.all[j].Leader(); return is && b == want }
		if !slices.ContainsFunc(l, func(j int) bool { return !knows(j) }) {
			return i
		}
	}
	return -1
}

// calm brings all up again, and lets go of what is under way and of what would break them.
func (g *group) calm(t testing.TB) {
	for i, o := range g.all {
		if o.Replica != nil {
			g.crash(i) // and the fuse is gone
		}
		g.restart(t, i)
	}
	g.wait = nil
	clear(g.side)
}

// leaderComes fails the test, unless a leader comes in time, and what is proposed to it is told in time. How many rounds it took is answered.
func (g *group) leaderComes(t testing.TB, l []int) int {
	t.Helper()
	rounds, was := 0, -1
	for {
		if rounds == 60 {
			t.Fatal("no leader among", l)
		}
		g.round(l)
		rounds++
		now := g.leader(l)
		if now >= 0 && now == was {
			break
		}
		was = now
		if g.Intn(2) == 0 { // the order within a round is anybody's
			g.Shuffle(len(l), func(i, j int) { l[i], l[j] = l[j], l[i] })
		}
	}
	g.number++
	x := batch(g.number)
	g.proposed[entryText(x)] = true
	out, e := g.all[was].Propose(x)
	must(t, e)
	slot := g.all[was].k.Length() - 1
	g.done(was)(out, e)
	g.quiet(l)
	for range 8 {
		g.round(l)
	}
	for _, i := range l {
		g.learn(i, 1<<20)
		if g.all[i].Told() <= slot || g.told[slot] != entryText(x) {
			t.Fatal(i, "was not told what was proposed:", g.all[i].Told(), slot)
		}
	}
	same(t, g.leader(l), was)
	if len(g.wrong) > 0 {
		t.Fatal(g.wrong)
	}
	return rounds
}

// P10.8: behind whatever has happened a leader comes.
func TestALeaderComes(t *testing.T) {
	most := 0
	for seed := range int64(60) {
		r := rand.New(rand.NewSource(seed))
		g := newGroup(t, r, 1+int(seed)%api.MaxReplicas, 400)
		for range r.Intn(600) {
			g.step(t)
		}
		g.calm(t)
		for range r.Intn(12) { // they have waited unlike times
			i := r.Intn(g.n)
			g.tick(i)
			if r.Intn(2) == 0 {
				g.wait = nil
			}
		}
		g.wait = nil
		for range 2 {
			most = max(most, g.leaderComes(t, g.majority()))
			g.wait = nil
		}
	}
	if most < 10 {
		t.Error("it came too soon:", most)
	}
}

// P10.8: of unlike logs and terms.
func TestALeaderComesOfUnlike(t *testing.T) {
	for seed := range int64(60) {
		r := rand.New(rand.NewSource(seed))
		n := 2 + r.Intn(4)
		g := &group{Rand: r, n: n, proposed: map[string]bool{}, leaders: map[int64]int{}, side: make([]int, n)}
		alike := r.Intn(20)
		first := repeat(1, alike)
		for i := range n {
			own := slices.Clone(first) // and then some that nobody else may have
			for term := int64(2); len(own) < alike+r.Intn(40); {
				term += r.Int63n(2)
				own = append(own, term*8+int64(i))
			}
			f, k := kept(t, 400, hasLog(own...), func(k *keeper.Keeper) api.Errno { return k.Vote(1000+r.Int63n(50)*r.Int63n(50), -1) })
			for _, x := range k.All(0) {
				g.proposed[entryText(x.Entry)] = true
			}
			g.all = append(g.all, over(t, f, k, n, i))
		}
		g.leaderComes(t, g.majority())
		g.wait = nil
		g.leaderComes(t, g.majority())
	}
}
