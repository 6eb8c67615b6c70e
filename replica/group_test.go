package replica_test

import (
	"fmt"
	"hash/fnv"
	"math/rand"
	"slices"
	"strings"
	"testing"

	"trivet/api"
	"trivet/record"
)

// group is replicas, the messages under way between them, and what has ever been told; it says what may not be.
type group struct {
	*rand.Rand
	n        int
	all      []*one // without a Replica, if it is down
	wait     []api.Msg
	told     []string // by slots, entries as texts
	at       []int64  // by slots, the least term of one that told it
	proposed map[string]bool
	leaders  map[int64]int // by terms
	side     []int         // between two of unlike sides nothing passes
	saves    int           // how often checkpoints are made, of four times
	number   int64
	restored int
	wrong    []string
}

func newGroup(t testing.TB, r *rand.Rand, n, blocks int) *group {
	g := &group{Rand: r, n: n, proposed: map[string]bool{}, leaders: map[int64]int{}, side: make([]int, n)}
	for i := range n {
		g.all = append(g.all, opened(t, made(t, blocks), n, i))
	}
	return g
}

func (g *group) fault(what ...any) { g.wrong = append(g.wrong, fmt.Sprintln(what...)) }

func entryText(x api.Entry) string {
	form, e := record.Entry(x)
	return fmt.Sprintf("%x %d", form, e)
}

// state is a checkpoint's data: they hang on all that was told below its slot, and are of one part or of two.
func (g *group) state(slot int64) []byte {
	h := fnv.New64a()
	for _, x := range g.told[:slot] {
		h.Write([]byte(x))
	}
	return fmt.Appendf(nil, "%d %x %s", slot, h.Sum64(), strings.Repeat("x", int(slot%3)*9000))
}

// up is those that are up.
func (g *group) up() []int {
	var l []int
	for i, o := range g.all {
		if o.Replica != nil {
			l = append(l, i)
		}
	}
	return l
}

// done takes what a call has answered; one whose keeper is broken is down with it.
func (g *group) done(i int) func(l []api.Msg, e api.Errno) {
	return func(l []api.Msg, e api.Errno) {
		o := g.all[i]
		if len(l) > 0 && e != api.OK {
			g.fault(i, "answers", e, "and messages")
		}
		for _, m := range l {
			if m.From != i || m.To == i || record.CheckMsg(m) != api.OK {
				g.fault(i, "says", m)
			}
		}
		g.wait = append(g.wait, l...)
		g.look(i)
		switch {
		case o.Broken():
			g.crash(i)
		case e != api.OK && e != api.ErrFull && e != api.ErrLeader && e != api.ErrSlot:
			g.fault(i, "answers", e)
		}
	}
}

// look looks at who leads: nobody else did in its term, and it has all that was told in earlier ones.
func (g *group) look(i int) {
	o := g.all[i]
	if o.Role() != api.RoleLead {
		return
	}
	was, is := g.leaders[o.Term()]
	if is && was != i {
		g.fault(was, "and", i, "lead in", o.Term())
	}
	if !is {
		g.leaders[o.Term()] = i
		g.complete(i, 0)
	}
}

// complete looks whether one that leads has what was told from a slot on in earlier terms.
func (g *group) complete(i int, from int64) {
	o := g.all[i]
	if s, has := o.k.State(); has && (s.Slot > int64(len(g.told)) || string(s.Data) != string(g.state(s.Slot))) {
		g.fault(i, "has another state at", s.Slot)
	}
	for slot := max(from, o.First()); slot < int64(len(g.told)); slot++ {
		x, has := o.k.At(slot)
		if g.at[slot] < o.Term() && (!has || entryText(x.Entry) != g.told[slot]) {
			g.fault(i, "leads", o.Term(), "without", slot, "which was told in", g.at[slot])
		}
	}
}

func (g *group) tick(i int) { g.done(i)(g.all[i].Tick()) }

func (g *group) propose(i int) {
	g.number++
	x := batch(g.number)
	if g.Intn(20) == 0 {
		x = wide(g.number)
	}
	g.proposed[entryText(x)] = true
	g.done(i)(g.all[i].Propose(x))
}

// arrive lets a message arrive; it may do so again.
func (g *group) arrive(at int, again bool) {
	m := g.wait[at]
	if !again {
		g.wait = slices.Delete(g.wait, at, at+1)
	}
	if g.all[m.To].Replica != nil && g.side[m.From] == g.side[m.To] {
		g.done(m.To)(g.all[m.To].Step(record.CloneMsg(m)))
	}
}

// learn lets one tell what it can, or some of it.
func (g *group) learn(i, most int) {
	o := g.all[i]
	for range most {
		if slot, b, is := o.Restore(); is {
			g.restored++
			if slot > int64(len(g.told)) || string(b) != string(g.state(slot)) {
				g.fault(i, "restores another state at", slot)
			}
			continue
		}
		slot, x, is := o.Next()
		if !is {
			return
		}
		g.tells(i, slot, entryText(x))
	}
}

func (g *group) tells(i int, slot int64, x string) {
	term := g.all[i].Term()
	switch {
	case slot > int64(len(g.told)):
		g.fault(i, "tells", slot, "ahead of", len(g.told))
		return
	case slot == int64(len(g.told)):
		g.told, g.at = append(g.told, x), append(g.at, term)
	case g.told[slot] != x:
		g.fault(i, "tells", slot, x, "not", g.told[slot])
	}
	g.at[slot] = min(g.at[slot], term)
	if x != entryText(api.Entry{}) && !g.proposed[x] {
		g.fault(i, "tells what nobody proposed:", x)
	}
	for _, j := range g.up() {
		if g.all[j].Role() == api.RoleLead {
			g.complete(j, slot)
		}
	}
}

func (g *group) checkpoint(i int) {
	o := g.all[i]
	if slot := o.Told() - g.Int63n(3); slot > o.First() {
		g.done(i)(nil, o.Checkpoint(slot, g.state(slot)))
	}
}

func (g *group) crash(i int) {
	g.all[i].f.Crash()
	g.all[i].Replica = nil
}

// restart opens one again; the power may go once more, but opening writes nothing. What the keeper had answered for is there.
func (g *group) restart(t testing.TB, i int) {
	o := g.all[i]
	must(t, o.f.Restart())
	was := o.k
	*o = *opened(t, o.f, g.n, i)
	if o.k.Term() < was.Term() || o.k.First() < was.First() {
		g.fault(i, "has forgotten")
	}
}

// step is whatever may happen.
func (g *group) step(t testing.TB) {
	i := g.Intn(g.n)
	if g.all[i].Replica == nil {
		if g.Intn(4) == 0 {
			g.restart(t, i)
		}
		return
	}
	for len(g.wait) > 80 {
		g.wait = slices.Delete(g.wait, g.Intn(40), 40+g.Intn(40))
	}
	switch k := g.Intn(200); {
	case k < 45:
		g.tick(i)
	case k < 60:
		g.propose(i)
	case k < 75:
		g.learn(i, 1+g.Intn(20))
	case k < 80:
		if g.Intn(4) < g.saves {
			g.checkpoint(i)
		}
	case k < 82:
		g.crash(i)
	case k < 84:
		must(t, g.all[i].f.SetFuse(1+g.Intn(20), g.Intn(3)))
	case k < 86 && len(g.wait) > 0:
		g.wait = slices.Delete(g.wait, 0, 1+g.Intn(len(g.wait)))
	case k < 87:
		g.side[i] = g.Intn(2)
	case k < 88:
		clear(g.side)
	case k < 90:
		for range g.Intn(30) {
			if g.all[i].Replica != nil {
				g.propose(i)
			}
		}
	case len(g.wait) > 0:
		at := 0
		if g.Intn(3) == 0 {
			at = g.Intn(len(g.wait))
		}
		g.arrive(at, g.Intn(8) == 0)
	}
}

// P10.6, P10.7: groups of each size, with messages that are delivered, lost, doubled and turned round, crashes at whichever page, and replicas opened again.
func TestGroups(t *testing.T) {
	leaders, told, restored := 0, 0, 0
	for seed := range int64(180) {
		r := rand.New(rand.NewSource(seed))
		g := newGroup(t, r, 1+int(seed)%api.MaxReplicas, []int{8, 12, 24, 28, 48, 100}[r.Intn(6)])
		g.saves = 1 + r.Intn(4)
		for step := range 2000 {
			g.step(t)
			if len(g.wrong) > 0 {
				t.Fatal("seed", seed, "step", step, g.wrong)
			}
		}
		leaders, told, restored = leaders+len(g.leaders), told+len(g.told), restored+g.restored
	}
	if leaders < 1500 || told < 9000 || restored < 500 {
		t.Error("few leaders, entries, states:", leaders, told, restored)
	}
}
