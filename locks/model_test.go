package locks_test

import (
	"fmt"
	"math/rand"
	"slices"
	"testing"

	"trivet/api"
	"trivet/locks"
)

// asked is what a transaction asked for.
type asked struct {
	txn  api.Id
	want []api.Lock
}

// model is the transactions that have asked and were not released, in the order in which they did; all else is reckoned of them by the chapter's words, each time anew.
type model struct{ l []asked }

func (m *model) at(txn api.Id) int {
	return slices.IndexFunc(m.l, func(x asked) bool { return x.txn == txn })
}

func (m *model) request(txn api.Id, want []api.Lock) api.Errno {
	for i := range want {
		for _, x := range want[:i] {
			if k := want[i].Key; x.Key.Table > k.Table || x.Key.Table == k.Table && x.Key.Row >= k.Row {
				return api.ErrArg
			}
		}
	}
	if m.at(txn) >= 0 {
		return api.ErrTwice
	}
	m.l = append(m.l, asked{txn, slices.Clone(want)})
	return api.OK
}

func (m *model) release(txn api.Id) ([]api.Id, api.Errno) {
	i := m.at(txn)
	if i < 0 {
		return nil, api.ErrNone
	}
	was := m.all()
	m.l = slices.Delete(slices.Clone(m.l), i, i+1)
	return slices.DeleteFunc(m.all(), func(x api.Id) bool { return slices.Contains(was, x) }), api.OK
}

// queue is the key's queue: one has the lock, if none stands ahead, or it itself and all ahead are shared.
func (m *model) queue(k api.Key) []api.Waiter {
	var q []api.Waiter
	for _, x := range m.l {
		for _, y := range x.want {
			if y.Key == k {
				shared := !y.Excl && !slices.ContainsFunc(q, func(w api.Waiter) bool { return w.Excl })
				q = append(q, api.Waiter{Txn: x.txn, Excl: y.Excl, Held: len(q) == 0 || shared})
			}
		}
	}
	return q
}

func (m *model) waits(txn api.Id) []api.Key {
	i := m.at(txn)
	if i < 0 {
		return nil
	}
	var l []api.Key
	for _, y := range m.l[i].want {
		for _, w := range m.queue(y.Key) {
			if w.Txn == txn && !w.Held {
				l = append(l, y.Key)
			}
		}
	}
	return l
}

func (m *model) ready(txn api.Id) bool { return m.at(txn) >= 0 && len(m.waits(txn)) == 0 }

func (m *model) all() []api.Id {
	var l []api.Id
	for _, x := range m.l {
		if m.ready(x.txn) {
			l = append(l, x.txn)
		}
	}
	return l
}

// look is what the function look tells of locks, of these transactions and keys, which rise.
func (m *model) look(txns []api.Id, of []api.Key) string {
	var out []any
	for _, x := range txns {
		out = append(out, x, m.ready(x), m.waits(x))
	}
	var in []api.Key
	for _, k := range of {
		q := m.queue(k)
		out = append(out, k, q)
		if len(q) > 0 {
			in = append(in, k)
		}
	}
	return fmt.Sprint(append(out, m.all(), in, len(m.l))...)
}

// pair is locks and their model, to which all is done alike.
type pair struct {
	l    *locks.Locks
	m    *model
	txns []api.Id
	keys []api.Key
}

func (p *pair) request(t *testing.T, txn api.Id, want ...api.Lock) {
	t.Helper()
	if x, y := p.l.Request(txn, want...), p.m.request(txn, want); x != y {
		t.Fatal("Request", txn, want, x, "not", y)
	}
	p.alike(t)
}

func (p *pair) release(t *testing.T, txn api.Id) []api.Id {
	t.Helper()
	got, x := p.l.Release(txn)
	want, y := p.m.release(txn)
	if x != y || !slices.Equal(got, want) {
		t.Fatal("Release", txn, got, x, "not", want, y)
	}
	p.alike(t)
	return got
}

func (p *pair) alike(t *testing.T) {
	t.Helper()
	if x, y := look(p.l, p.txns, p.keys), p.m.look(p.txns, p.keys); x != y {
		t.Fatal(x, "not", y)
	}
}

// orders is all orders of the numbers below n.
func orders(n int) [][]int {
	if n == 0 {
		return [][]int{nil}
	}
	var out [][]int
	for _, l := range orders(n - 1) {
		for i := range n {
			out = append(out, slices.Insert(slices.Clone(l), i, n-1))
		}
	}
	return out
}

// P16.1, P16.2: all ways in which three ask for two keys, and are released in any order, those that wait, too, held against the chapter's words.
func TestAllWays(t *testing.T) {
	of := [9][]api.Lock{nil, {shared(a)}, {alone(a)}, {shared(b)}, {alone(b)}, {shared(a), shared(b)}, {shared(a), alone(b)}, {alone(a), shared(b)}, {alone(a), alone(b)}}
	for set := range 9 * 9 * 9 {
		for _, order := range orders(3) {
			p := &pair{locks.New(), &model{}, ids(2, 0, 1), keys(a, b)}
			for _, ask := range []struct{ n, want int }{{2, set % 9}, {0, set / 9 % 9}, {1, set / 81}} {
				p.request(t, id(ask.n), of[ask.want]...)
			}
			for _, n := range order {
				p.release(t, id(n))
			}
			same(t, p.l.Len(), 0)
		}
	}
}

// few are the keys and the transactions that are drawn from; these differ in their slots, or in their places alone.
func few() ([]api.Id, []api.Key) {
	var txns []api.Id
	for i := range 14 {
		txns = append(txns, api.Id{Slot: int64(i % 4), Place: i / 4})
	}
	return txns, keys(key(minTable, maxRow), a, b, c, d, key(maxTable, minRow))
}

// drawnWant is locks of some of the keys; their keys rise, but for one time in eight.
func drawnWant(r *rand.Rand, of []api.Key) []api.Lock {
	var l []api.Lock
	often := 1 + r.Intn(4)
	for _, k := range of {
		if r.Intn(4) < often && r.Intn(2) == 0 {
			l = append(l, api.Lock{Key: k, Excl: r.Intn(3) == 0})
		}
	}
	if r.Intn(8) == 0 && len(l) > 0 {
		l = append(l, l[r.Intn(len(l))])
	}
	return l
}

// P16.1, P16.2, R2: drawn runs of requests and releases, of refused ones, too, over few keys, held against the chapter's words; now and then it goes on with a clone, and what it is a clone of stays.
func TestDrawnRuns(t *testing.T) {
	txns, of := few()
	told, refused := 0, 0
	for seed := range int64(400) {
		r := rand.New(rand.NewSource(seed))
		p := &pair{locks.New(), &model{}, txns, of}
		for range 60 {
			txn := txns[r.Intn(len(txns))]
			switch r.Intn(8) {
			case 0, 1, 2, 3:
				for range 2 { // rather one that has not asked
					if p.m.at(txn) >= 0 {
						txn = txns[r.Intn(len(txns))]
					}
				}
				was := len(p.m.l)
				p.request(t, txn, drawnWant(r, of)...)
				if len(p.m.l) == was {
					refused++
				}
			case 4, 5, 6:
				for range 2 { // rather one that has
					if p.m.at(txn) < 0 {
						txn = txns[r.Intn(len(txns))]
					}
				}
				told += len(p.release(t, txn))
			case 7:
				old, was := p.l, look(p.l, txns, of)
				p.l = old.Clone()
				p.alike(t)
				p.release(t, txn)
				same(t, look(old, txns, of), was)
			}
			if t.Failed() {
				t.Fatal(seed)
			}
		}
	}
	if told < 1000 || refused < 1000 {
		t.Error(told, refused, "are drawn too seldom")
	}
}

// lawful looks whether in no queue two have the lock of which one wants it alone, nor one while another one that clashes with it stands ahead: whether that one has it, or waits.
func lawful(t *testing.T, l *locks.Locks, of []api.Key) {
	t.Helper()
	for _, k := range of {
		q := l.Queue(k)
		for i, x := range q {
			for _, y := range q[i+1:] {
				if (x.Excl || y.Excl) && y.Held {
					t.Error(k, text(q))
				}
			}
		}
	}
}

// P16.3, P16.4: at each moment of drawn runs, in which those that wait are released, too, of two that asked for one key, one of them alone, not both have its lock, and the later one has it not while the earlier one stands there; what one has it has till it is released.
func TestNobodyAtOnceAndInOrder(t *testing.T) {
	txns, of := few()
	for seed := range int64(400) {
		r := rand.New(rand.NewSource(seed))
		l := locks.New()
		has := map[api.Id]int{} // how many keys it has
		wants := map[api.Id]int{}
		for range 60 {
			txn := txns[r.Intn(len(txns))]
			if r.Intn(5) < 3 {
				want := drawnWant(r, of)
				if l.Request(txn, want...) == api.OK {
					wants[txn], has[txn] = len(want), 0
				}
			} else if _, err := l.Release(txn); err == api.OK {
				wants[txn], has[txn] = 0, 0
			}
			lawful(t, l, of)
			for _, x := range txns {
				n := wants[x] - len(l.Waits(x))
				if n < has[x] {
					t.Error(x, "has lost a lock")
				}
				has[x] = n
			}
			if t.Failed() {
				t.Fatal(seed)
			}
		}
	}
}

// P16.4: of two that clash, the one that asked first has the lock first, whatever is released when: the moments at which drawn transactions get their locks.
func TestFirstComeFirstServed(t *testing.T) {
	_, of := few()
	for seed := range int64(300) {
		r := rand.New(rand.NewSource(seed))
		l := locks.New()
		got := map[api.Key]map[int]int{} // by keys and transactions, when it got the lock
		var wants [][]api.Lock
		for now := 0; now < 12 || l.Len() > 0; now++ {
			if now < 12 {
				wants = append(wants, rising(drawnWant(r, of)))
				ask(t, l, now, wants[now]...)
			} else if who := slices.Collect(l.All()); len(who) > 0 {
				l.Release(who[r.Intn(len(who))])
			}
			for _, k := range of {
				for _, w := range l.Queue(k) {
					if got[k] == nil {
						got[k] = map[int]int{}
					}
					if _, had := got[k][int(w.Txn.Slot)]; w.Held && !had {
						got[k][int(w.Txn.Slot)] = now
					}
				}
			}
		}
		for i, first := range wants {
			for _, x := range first {
				for j, other := range wants[i+1:] {
					for _, y := range other {
						if x.Key == y.Key && (x.Excl || y.Excl) && got[x.Key][i] >= got[x.Key][i+1+j] {
							t.Fatal(seed, x, y, got[x.Key])
						}
					}
				}
			}
		}
	}
}

// rising is l without its last one, if that does not rise.
func rising(l []api.Lock) []api.Lock {
	if (&model{}).request(api.Id{}, l) != api.OK {
		return l[:len(l)-1]
	}
	return l
}

// P16.5: as long as there are transactions, the one that asked first of all is ready, whatever was released, those that wait, too.
func TestNoCircle(t *testing.T) {
	txns, of := few()
	waited := 0
	for seed := range int64(500) {
		r := rand.New(rand.NewSource(seed))
		l := locks.New()
		var order []api.Id
		for range 80 {
			txn := txns[r.Intn(len(txns))]
			if i := slices.Index(order, txn); i >= 0 {
				_, err := l.Release(txn)
				same(t, err, api.OK)
				order = slices.Delete(order, i, i+1)
			} else {
				same(t, l.Request(txn, rising(drawnWant(r, of))...), api.OK)
				order = append(order, txn)
			}
			who := slices.Collect(l.All())
			if len(order) > 0 && (len(who) == 0 || who[0] != order[0] || !l.Ready(order[0])) {
				t.Fatal(seed, order, who)
			}
			waited += len(order) - len(who)
		}
	}
	if waited < 10000 {
		t.Error(waited, "wait, which is too seldom")
	}
}

// P16.6: released in any order in which only ready ones are released, all are ready once, in which they are told once, by what made them so; and nothing is left.
func TestAllAreReadyOnce(t *testing.T) {
	_, of := few()
	for seed := range int64(1000) {
		r := rand.New(rand.NewSource(seed))
		l := locks.New()
		many := 1 + r.Intn(14)
		ready := map[api.Id]int{}
		var now []api.Id
		for n := range many {
			ask(t, l, n, rising(drawnWant(r, of))...)
			if l.Ready(id(n)) {
				now = append(now, id(n))
				ready[id(n)]++
			}
		}
		for len(now) > 0 {
			i := r.Intn(len(now))
			who := now[i]
			now = slices.Delete(now, i, i+1)
			more, err := l.Release(who)
			same(t, err, api.OK)
			for _, x := range more {
				ready[x]++
			}
			now = append(now, more...)
			same(t, l.Len() >= len(now), true)
		}
		same(t, l.Len(), 0)
		same(t, len(l.Keys()), 0)
		for n := range many {
			if ready[id(n)] != 1 {
				t.Fatal(seed, n, ready)
			}
		}
	}
}
