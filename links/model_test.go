package links_test

import (
	"fmt"
	"math/rand"
	"slices"
	"testing"

	"trivet/api"
	"trivet/links"
	"trivet/record"
)

// model is what the chapter says, word by word: one list of all that is under way, in the order in which it came to its pipe's end.
type model struct {
	n   int
	on  []api.Msg
	cut []api.Way
}

func wayOf(m api.Msg) api.Way { return api.Way{From: m.From, To: m.To} }

// places is where the messages of a pipe stand in the list.
func (m *model) places(p api.Way) (l []int) {
	for i, x := range m.on {
		if wayOf(x) == p {
			l = append(l, i)
		}
	}
	return l
}

func (m *model) send(x api.Msg) int {
	p := wayOf(x)
	if record.CheckMsg(x) != api.OK || !good(p, m.n) || slices.Contains(m.cut, p) || len(m.places(p)) >= 256 {
		return 0
	}
	m.on = append(m.on, x)
	return 1
}

// fault is the error that a call of a pair answers which needs a message.
func (m *model) fault(p api.Way) api.Errno {
	switch {
	case !good(p, m.n):
		return api.ErrArg
	case len(m.places(p)) == 0:
		return api.ErrNone
	}
	return api.OK
}

// take takes a pipe's first message away.
func (m *model) take(p api.Way) api.Msg {
	i := m.places(p)[0]
	x := m.on[i]
	m.on = slices.Concat(m.on[:i], m.on[i+1:])
	return x
}

func (m *model) pass(p api.Way) (x api.Msg, e api.Errno) {
	if e = m.fault(p); e == api.OK {
		x = m.take(p)
	}
	return x, e
}

func (m *model) lose(p api.Way, n int) (gone int) {
	for ; gone < n && m.fault(p) == api.OK; gone++ {
		m.take(p)
	}
	return gone
}

func (m *model) twice(p api.Way) api.Errno {
	switch e := m.fault(p); {
	case e != api.OK:
		return e
	case len(m.places(p)) == 256:
		return api.ErrFull
	}
	m.on = append(m.on, m.on[m.places(p)[0]])
	return api.OK
}

func (m *model) turn(p api.Way) api.Errno {
	e := m.fault(p)
	if e == api.OK {
		m.on = append(m.on, m.take(p))
	}
	return e
}

// spoil knows that a byte that is changed is a message that is gone.
func (m *model) spoil(p api.Way, at int, with byte) api.Errno {
	if e := m.fault(p); e != api.OK {
		return e
	}
	b, _ := record.Marshal(m.on[m.places(p)[0]])
	if at < 0 || at >= len(b) {
		return api.ErrArg
	}
	if with != 0 {
		m.take(p)
	}
	return api.OK
}

func (m *model) setCut(p api.Way, cut bool) api.Errno {
	if !good(p, m.n) {
		return api.ErrArg
	}
	both := []api.Way{p, {From: p.To, To: p.From}}
	m.cut = slices.DeleteFunc(m.cut, func(q api.Way) bool { return slices.Contains(both, q) })
	if cut {
		m.cut = append(m.cut, both...)
		m.on = slices.DeleteFunc(m.on, func(x api.Msg) bool { return slices.Contains(both, wayOf(x)) })
	}
	return api.OK
}

// alike fails the test, if anything that can be read of links is not as in the model.
func (m *model) alike(t *testing.T, l *links.Links) {
	t.Helper()
	var all []api.Msg
	for from := -1; from <= m.n; from++ {
		for to := -1; to <= m.n; to++ {
			p := api.Way{From: from, To: to}
			var want []api.Msg
			for _, i := range m.places(p) {
				want = append(want, m.on[i])
			}
			all = append(all, want...)
			front, is := l.Front(p)
			if l.Many(p) != len(want) || is != (len(want) > 0) || is && !record.SameMsg(front, want[0]) {
				t.Fatal(p, l.Many(p), len(want), front, is)
			}
			if l.Whole(p) != (good(p, m.n) && !slices.Contains(m.cut, p)) {
				t.Fatal(p, l.Whole(p), m.cut)
			}
		}
	}
	var got []api.Msg
	for p, x := range l.All() {
		if wayOf(x) != p {
			t.Fatal(p, x)
		}
		got = append(got, x)
	}
	if !slices.EqualFunc(got, all, record.SameMsg) || l.Len() != len(all) {
		t.Fatal(l.Len(), got, all)
	}
}

// fresh is a message to be sent, of which some may not be; it is told from others by its Term or by an entry's Number.
func fresh(draw *rand.Rand, p api.Way, number int64) api.Msg {
	x := rich(p)[draw.Intn(6)]
	switch {
	case draw.Intn(20) == 0:
		x.Commit = -1
	case x.Kind == api.MsForward:
		x.Entry.Number = number
	default:
		x.Term = number
	}
	return x
}

// step does the same to both, and tells what they answer.
func step(draw *rand.Rand, l *links.Links, m *model, number int64) (got, want string) {
	p := api.Way{From: draw.Intn(m.n), To: draw.Intn(m.n)}
	if draw.Intn(12) == 0 {
		p = api.Way{From: draw.Intn(m.n+2) - 1, To: draw.Intn(m.n+2) - 1}
	}
	switch k := draw.Intn(40); {
	case k < 3:
		x, e := l.Pass(p)
		y, f := m.pass(p)
		return fmt.Sprint(x, e), fmt.Sprint(y, f)
	case k < 5:
		n := draw.Intn(5) - 1
		return fmt.Sprint(l.Lose(p, n)), fmt.Sprint(m.lose(p, n))
	case k < 12:
		return fmt.Sprint(l.Twice(p)), fmt.Sprint(m.twice(p))
	case k < 16:
		return fmt.Sprint(l.Turn(p)), fmt.Sprint(m.turn(p))
	case k < 19:
		at, with := draw.Intn(80)-2, byte(draw.Intn(256)*draw.Intn(2))
		return fmt.Sprint(l.Spoil(p, at, with)), fmt.Sprint(m.spoil(p, at, with))
	case k == 19 && draw.Intn(8) == 0:
		return fmt.Sprint(l.Cut(p)), fmt.Sprint(m.setCut(p, true))
	case k == 20:
		return fmt.Sprint(l.Join(p)), fmt.Sprint(m.setCut(p, false))
	}
	var send []api.Msg
	n := 0
	for i := range draw.Intn(40) {
		q := p
		if draw.Intn(3) == 0 {
			q = api.Way{From: draw.Intn(m.n), To: draw.Intn(m.n)}
		}
		send = append(send, fresh(draw, q, number+int64(i)))
		n += m.send(send[i])
	}
	return fmt.Sprint(l.Send(send...)), fmt.Sprint(n)
}

// P3.1 to P3.3: any calls one behind the other do what the chapter says, in all that can be read; a clone goes on as the links themselves would have.
func TestAgainstTheModel(t *testing.T) {
	full := false
	for seed := range int64(20) {
		draw := rand.New(rand.NewSource(seed))
		n := 1 + draw.Intn(5)
		l, m := made(t, n), &model{n: n}
		for i := range 250 {
			if i%7 == 0 {
				l = l.Clone()
			}
			got, want := step(draw, l, m, int64(i)*100)
			if got != want {
				t.Fatal(seed, i, got, "not", want)
			}
			if i%10 == 0 {
				m.alike(t, l)
			}
			full = full || slices.ContainsFunc(around(n), func(p api.Way) bool { return l.Many(p) == api.MaxPipe })
		}
		m.alike(t, l)
	}
	if !full {
		t.Error("no pipe was full: the test says little")
	}
}

// P3.4: what passes of a pair, if nothing else is done to it, is what was sent on it, in that order, whatever is done to other pairs.
func TestInOrder(t *testing.T) {
	const n = 4
	for seed := range int64(10) {
		draw := rand.New(rand.NewSource(seed))
		l := made(t, n)
		calm := api.Way{From: draw.Intn(n), To: draw.Intn(n)}
		if calm.From == calm.To {
			continue
		}
		var sent []int64
		for i := range int64(3000) {
			p := api.Way{From: draw.Intn(n), To: draw.Intn(n)}
			if p != calm {
				l.Turn(p)
				l.Twice(p)
				l.Spoil(p, draw.Intn(9), byte(draw.Intn(256)))
				l.Lose(p, draw.Intn(3))
				if p != (api.Way{From: calm.To, To: calm.From}) && draw.Intn(50) == 0 {
					l.Cut(p)
				}
			}
			if draw.Intn(3) > 0 && l.Send(vote(calm, i)) == 1 {
				sent = append(sent, i)
			}
			if draw.Intn(3) == 0 {
				x, e := l.Pass(calm)
				if e != api.OK && len(sent) > 0 || e == api.OK && x.Term != sent[0] {
					t.Fatal(seed, i, x, e, sent)
				}
				sent = sent[min(1, len(sent)):]
			}
		}
		if l.Many(calm) != len(sent) || len(sent) < 200 {
			t.Error(seed, l.Many(calm), len(sent))
		}
	}
}

// P3.5: what passes was sent on its way, and no oftener than it was sent and doubled.
func TestNothingIsMadeUp(t *testing.T) {
	const n = 3
	for seed := range int64(10) {
		draw := rand.New(rand.NewSource(seed))
		l := made(t, n)
		left := map[string]int{}
		passed := 0
		for i := range int64(2000) {
			p := api.Way{From: draw.Intn(n), To: draw.Intn(n)}
			switch draw.Intn(8) {
			case 0, 1, 2:
				x := fresh(draw, p, i)
				left[fmt.Sprint(x)] += l.Send(x)
			case 3:
				x, _ := l.Front(p)
				if l.Twice(p) == api.OK {
					left[fmt.Sprint(x)]++
				}
			case 4:
				l.Turn(p)
			case 5:
				l.Spoil(p, draw.Intn(60), byte(draw.Intn(256)))
			default:
				x, e := l.Pass(p)
				if e != api.OK {
					continue
				}
				passed++
				s := fmt.Sprint(x)
				if left[s]--; left[s] < 0 || wayOf(x) != p {
					t.Fatal(seed, i, p, x)
				}
			}
		}
		if passed < 100 {
			t.Error(seed, passed, "passed: the test says little")
		}
	}
}
