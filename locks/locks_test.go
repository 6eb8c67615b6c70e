package locks_test

import (
	"fmt"
	"math"
	"slices"
	"strings"
	"testing"

	"trivet/api"
	"trivet/locks"
)

const (
	minTable, maxTable = math.MinInt32, math.MaxInt32
	minRow, maxRow     = math.MinInt64, math.MaxInt64
)

func same[T comparable](t *testing.T, got, want T) {
	t.Helper()
	if got != want {
		t.Error(got, "not", want)
	}
}

func sameList[T comparable](t *testing.T, got, want []T) {
	t.Helper()
	if !slices.Equal(got, want) {
		t.Error(got, "not", want)
	}
}

func key(table int32, row int64) api.Key { return api.Key{Table: table, Row: row} }

// a to e are keys, rising.
var a, b, c, d, e = key(-1, 5), key(0, -1), key(0, 0), key(0, 1), key(1, -5)

func keys(l ...api.Key) []api.Key { return l }

// shared and alone are the locks of one key.
func shared(k api.Key) api.Lock { return api.Lock{Key: k} }
func alone(k api.Key) api.Lock  { return api.Lock{Key: k, Excl: true} }

// id is one of the transactions that these tests speak of by numbers.
func id(n int) api.Id { return api.Id{Slot: int64(n)} }

func ids(l ...int) []api.Id {
	var out []api.Id
	for _, n := range l {
		out = append(out, id(n))
	}
	return out
}

// ask lets the transaction n ask.
func ask(t *testing.T, l *locks.Locks, n int, want ...api.Lock) {
	t.Helper()
	if x := l.Request(id(n), want...); x != api.OK {
		t.Error("Request of", n, x)
	}
}

// free releases the transaction n, by which those are ready.
func free(t *testing.T, l *locks.Locks, n int, ready ...int) {
	t.Helper()
	got, x := l.Release(id(n))
	if x != api.OK || !slices.Equal(got, ids(ready...)) {
		t.Error("Release of", n, got, x, "not", ready)
	}
}

// ready asks Ready of the transactions 0 to 9, and All, which of them are.
func ready(t *testing.T, l *locks.Locks, want ...int) {
	t.Helper()
	sameList(t, slices.Collect(l.All()), ids(want...))
	for n := range 10 {
		if l.Ready(id(n)) != slices.Contains(want, n) {
			t.Error("Ready of", n, "not", want)
		}
	}
}

// text is a queue in short: each one's number, s for shared, x for alone, and + if it has the lock.
func text(q []api.Waiter) string {
	var l []string
	for _, w := range q {
		x := fmt.Sprint(w.Txn.Slot, "s")
		if w.Excl {
			x = fmt.Sprint(w.Txn.Slot, "x")
		}
		if w.Held {
			x += "+"
		}
		l = append(l, x)
	}
	return strings.Join(l, " ")
}

// queue asks for a key's queue.
func queue(t *testing.T, l *locks.Locks, k api.Key, want string) {
	t.Helper()
	if got := text(l.Queue(k)); got != want {
		t.Errorf("%v: %q, not %q", k, got, want)
	}
}

// edges is keys at all edges, rising.
func edges() []api.Key {
	var l []api.Key
	for _, table := range []int32{minTable, -256, -1, 0, 1, 255, maxTable} {
		for _, row := range []int64{minRow, math.MinInt32, -1, 0, 1, 1 << 32, maxRow} {
			l = append(l, key(table, row))
		}
	}
	return l
}

// look is all that can be asked of locks about these transactions and keys, as a text.
func look(l *locks.Locks, txns []api.Id, of []api.Key) string {
	var out []any
	for _, x := range txns {
		out = append(out, x, l.Ready(x), l.Waits(x))
	}
	for _, k := range of {
		out = append(out, k, l.Queue(k))
	}
	return fmt.Sprint(append(out, slices.Collect(l.All()), l.Keys(), l.Len())...)
}

// looked is what look tells of the transactions 0 to 9 and the keys a to e.
func looked(l *locks.Locks) string {
	return look(l, ids(0, 1, 2, 3, 4, 5, 6, 7, 8, 9), keys(a, b, c, d, e))
}

// The chapter's example.
func TestExample(t *testing.T) {
	l := locks.New()
	ask(t, l, 1, shared(a))
	ask(t, l, 2, shared(a))
	ask(t, l, 3, alone(a))
	ready(t, l, 1, 2)
	free(t, l, 1)
	free(t, l, 2, 3)
	ready(t, l, 3)
}

// P16.1: New has no transaction, each time.
func TestNew(t *testing.T) {
	for range 2 {
		l := locks.New()
		same(t, l.Len(), 0)
		sameList(t, l.Keys(), nil)
		ready(t, l)
		queue(t, l, a, "")
		sameList(t, l.Waits(id(0)), nil)
		ask(t, l, 0, alone(a))
	}
}

// P16.1, P16.2: one that asks for no lock at all is ready at once, and stands in no queue.
func TestRequestOfNoLock(t *testing.T) {
	l := locks.New()
	ask(t, l, 1, alone(a))
	ask(t, l, 2)
	ask(t, l, 3, alone(a))
	ask(t, l, 4, []api.Lock{}...)
	ready(t, l, 1, 2, 4)
	sameList(t, l.Waits(id(2)), nil)
	queue(t, l, a, "1x+ 3x")
	sameList(t, l.Keys(), keys(a))
	same(t, l.Len(), 4)
	same(t, l.Request(id(2)), api.ErrTwice)
	same(t, l.Request(id(2), alone(b)), api.ErrTwice)
	sameList(t, l.Keys(), keys(a))
}

// P16.1: one stands at the end of each queue of its keys, and of no other.
func TestRequestStandsAtTheEnd(t *testing.T) {
	l := locks.New()
	ask(t, l, 3, shared(a), alone(b))
	ask(t, l, 1, shared(a), shared(c))
	ask(t, l, 2, alone(b), alone(c), shared(d))
	ask(t, l, 0, shared(a), shared(b), shared(c), shared(d))
	queue(t, l, a, "3s+ 1s+ 0s+")
	queue(t, l, b, "3x+ 2x 0s")
	queue(t, l, c, "1s+ 2x 0s")
	queue(t, l, d, "2s+ 0s+")
	queue(t, l, e, "")
	ready(t, l, 3, 1)
	same(t, l.Len(), 4)
}

// refused asks for what may not be, and looks whether that changed anything.
func refused(t *testing.T, l *locks.Locks, err api.Errno, n int, want ...api.Lock) {
	t.Helper()
	was := looked(l)
	if x := l.Request(id(n), want...); x != err {
		t.Error("Request of", n, want, x, "not", err)
	}
	if now := looked(l); now != was {
		t.Error("Request of", n, want, "has changed something:", was, now)
	}
}

// P16.1, R2: keys that do not rise, each once, are ErrArg, whether they are shared or alone, at whichever place, and change nothing.
func TestRequestOfKeysThatDoNotRise(t *testing.T) {
	l := locks.New()
	ask(t, l, 1, shared(a), shared(b), shared(c))
	ask(t, l, 2, alone(c))
	for _, lock := range []func(api.Key) api.Lock{shared, alone} {
		for _, other := range []func(api.Key) api.Lock{shared, alone} {
			refused(t, l, api.ErrArg, 3, lock(a), other(a))
			refused(t, l, api.ErrArg, 3, lock(b), other(a))
			refused(t, l, api.ErrArg, 3, lock(e), other(a))
			refused(t, l, api.ErrArg, 3, lock(c), other(b))
			refused(t, l, api.ErrArg, 3, lock(a), other(b), other(b))
			refused(t, l, api.ErrArg, 3, lock(a), lock(a), other(b))
			refused(t, l, api.ErrArg, 3, lock(a), lock(c), other(b))
			refused(t, l, api.ErrArg, 3, lock(b), lock(a), other(c))
			refused(t, l, api.ErrArg, 3, lock(a), lock(b), lock(c), lock(d), other(c))
			refused(t, l, api.ErrArg, 3, lock(a), lock(b), lock(c), lock(d), other(a))
		}
	}
	ask(t, l, 3, alone(a), shared(b))
	queue(t, l, a, "1s+ 3x")
}

// P16.1: keys at all edges, the least and the greatest Table and Row among them: all that rise, two by two, may be asked for, and no others.
func TestRequestOfEdges(t *testing.T) {
	l := edges()
	for i, x := range l {
		for j, y := range l {
			want := api.ErrArg
			if i < j {
				want = api.OK
			}
			s := locks.New()
			same(t, s.Request(id(1), shared(x), alone(y)), want)
			same(t, s.Len() == 1, i < j)
			queue(t, s, y, map[bool]string{true: "1x+"}[i < j])
		}
	}
	var all []api.Lock
	for _, k := range l {
		all = append(all, alone(k))
	}
	s := locks.New()
	ask(t, s, 1, all...)
	ask(t, s, 2, all...)
	sameList(t, s.Keys(), l)
	sameList(t, s.Waits(id(2)), l)
	free(t, s, 1, 2)
	slices.Reverse(all)
	refused(t, s, api.ErrArg, 3, all...)
}

// P16.1, R2: one that has asked, ready or not, asks no second time, whatever it wants; of keys that do not rise, too, the answer is ErrArg, which is named first.
func TestRequestTwice(t *testing.T) {
	l := locks.New()
	ask(t, l, 1, alone(a))
	ask(t, l, 2, alone(a), shared(b))
	ask(t, l, 3)
	for _, n := range []int{1, 2, 3} {
		refused(t, l, api.ErrTwice, n)
		refused(t, l, api.ErrTwice, n, alone(a))
		refused(t, l, api.ErrTwice, n, shared(a), shared(b))
		refused(t, l, api.ErrTwice, n, alone(d), alone(e))
		refused(t, l, api.ErrArg, n, alone(b), alone(a))
		refused(t, l, api.ErrArg, n, alone(d), alone(d))
	}
	free(t, l, 1, 2)
	refused(t, l, api.ErrTwice, 2, alone(a))
}

// P16.1: one that was released may ask again, for the same or for others, and stands at the end then.
func TestRequestAgain(t *testing.T) {
	l := locks.New()
	ask(t, l, 1, alone(a), shared(b))
	ask(t, l, 2, alone(a), shared(b))
	ask(t, l, 3, shared(a))
	free(t, l, 1, 2)
	ask(t, l, 1, alone(a), shared(b))
	queue(t, l, a, "2x+ 3s 1x")
	queue(t, l, b, "2s+ 1s+")
	ready(t, l, 2)
	free(t, l, 2, 3)
	ask(t, l, 2, alone(c))
	ready(t, l, 3, 2)
	free(t, l, 3, 1)
	ask(t, l, 3)
	ready(t, l, 1, 2, 3)
	refused(t, l, api.ErrTwice, 1, alone(e))
	free(t, l, 1)
	free(t, l, 2)
	free(t, l, 3)
	for range 3 {
		ask(t, l, 3, alone(a))
		ready(t, l, 3)
		free(t, l, 3)
		ready(t, l)
	}
}

// P16.1: transactions go by slot and place, whatever these are, and come in any order.
func TestRequestOfAnyTxn(t *testing.T) {
	l := locks.New()
	var order []api.Id
	for _, slot := range []int64{7, maxRow, 0, minRow, -1, 1} {
		for _, place := range []int{3, 0, math.MaxInt, -1, math.MinInt} {
			x := api.Id{Slot: slot, Place: place}
			same(t, l.Ready(x), false)
			same(t, l.Request(x, shared(a)), api.OK)
			same(t, l.Request(x), api.ErrTwice)
			order = append(order, x)
			same(t, l.Len(), len(order))
		}
	}
	sameList(t, slices.Collect(l.All()), order)
	last := api.Id{Slot: 5, Place: 5}
	same(t, l.Request(last, alone(a)), api.OK)
	for i, x := range order {
		same(t, l.Ready(last), false)
		got, err := l.Release(x)
		same(t, err, api.OK)
		sameList(t, got, map[bool][]api.Id{true: {last}}[i == len(order)-1])
	}
	sameList(t, slices.Collect(l.All()), []api.Id{last})
}
