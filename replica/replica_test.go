package replica_test

import (
	"fmt"
	"math"
	"strings"
	"testing"

	"trivet/api"
	"trivet/flash"
	"trivet/keeper"
	"trivet/record"
	"trivet/replica"
)

const top = int64(api.MaxTime)

// one is a replica, and what it stands on.
type one struct {
	*replica.Replica
	f *flash.Flash
	k *keeper.Keeper
}

func made(t testing.TB, blocks int) *flash.Flash {
	t.Helper()
	f, e := flash.New(blocks)
	if f == nil || e != api.OK {
		t.Fatal(blocks, e)
	}
	return f
}

// opened is a replica over what its flash has.
func opened(t testing.TB, f *flash.Flash, n, self int) *one {
	t.Helper()
	k, e := keeper.Open(f)
	must(t, e)
	return over(t, f, k, n, self)
}

func over(t testing.TB, f *flash.Flash, k *keeper.Keeper, n, self int) *one {
	t.Helper()
	r, e := replica.New(api.Conf{N: n, Self: self}, k)
	if r == nil || e != api.OK {
		t.Fatal("New answers", r, e)
	}
	return &one{r, f, k}
}

// kept is a keeper on a new flash, with some things done to it.
func kept(t testing.TB, blocks int, do ...func(k *keeper.Keeper) api.Errno) (*flash.Flash, *keeper.Keeper) {
	t.Helper()
	f := made(t, blocks)
	k, e := keeper.Open(f)
	must(t, e)
	for _, x := range do {
		must(t, x(k))
	}
	return f, k
}

// begun is a replica over a keeper on a new flash, with some things done to that ahead.
func begun(t testing.TB, n, self int, do ...func(k *keeper.Keeper) api.Errno) *one {
	t.Helper()
	f, k := kept(t, 64, do...)
	return over(t, f, k, n, self)
}

func hasVote(term int64, who int) func(k *keeper.Keeper) api.Errno {
	return func(k *keeper.Keeper) api.Errno { return k.Vote(term, who) }
}

// hasLog is entries behind the log, one of each of these terms.
func hasLog(terms ...int64) func(k *keeper.Keeper) api.Errno {
	return func(k *keeper.Keeper) api.Errno { return k.Append(k.Length(), list(k.Length(), terms...)...) }
}

func hasChosen(upto int64) func(k *keeper.Keeper) api.Errno {
	return func(k *keeper.Keeper) api.Errno { return k.Commit(upto) }
}

// hasState is a checkpoint of all below a slot that is chosen.
func hasState(slot int64, data string) func(k *keeper.Keeper) api.Errno {
	return func(k *keeper.Keeper) api.Errno { return k.Checkpoint(slot, []byte(data)) }
}

func same[T comparable](t testing.TB, got, want T) {
	t.Helper()
	if got != want {
		t.Error(got, "not", want)
	}
}

// must fails the test at once, unless a call has answered OK.
func must(t testing.TB, e api.Errno) {
	t.Helper()
	if e != api.OK {
		t.Fatal("answers", e)
	}
}

// batch is an entry; what tells it from others is n.
func batch(n int64) api.Entry {
	return api.Entry{Kind: api.EnBatch, From: int(n) % 5, Number: n, Txns: []api.Txn{{Session: 1, Request: n + 1, Code: []byte{byte(n)}, Args: []int64{n}, Reads: []api.Key{{Table: 1, Row: n}}, Writes: []api.Key{{Table: 2, Row: n}}}}}
}

// wide is an entry whose record has some six pages.
func wide(n int64) api.Entry {
	x := batch(n)
	for len(x.Txns) < 3 {
		x.Txns = append(x.Txns, api.Txn{Session: 2, Request: 1, Code: make([]byte, api.MaxCode)})
	}
	return x
}

func termed(term int64, e api.Entry) api.Termed { return api.Termed{Term: term, Entry: e} }

// list is entries of these terms, from a slot on: of one slot and one term there is one alone.
func list(slot int64, terms ...int64) []api.Termed {
	var l []api.Termed
	for i, term := range terms {
		l = append(l, termed(term, batch(slot+int64(i)+term*1000)))
	}
	return l
}

// repeat is a term so many times.
func repeat(term int64, times int) []int64 {
	l := make([]int64, times)
	for i := range l {
		l[i] = term
	}
	return l
}

func asks(from, to int, term, slot, last int64) api.Msg {
	return api.Msg{Kind: api.MsVote, From: from, To: to, Term: term, Slot: slot, Last: last}
}

func votes(from, to int, term int64, yes bool) api.Msg {
	return api.Msg{Kind: api.MsVoted, From: from, To: to, Term: term, Yes: yes}
}

func sends(from, to int, term, slot, last, commit int64, l ...api.Termed) api.Msg {
	return api.Msg{Kind: api.MsAppend, From: from, To: to, Term: term, Slot: slot, Last: last, Commit: commit, List: l}
}

func tells(from, to int, term int64, yes bool, slot int64) api.Msg {
	return api.Msg{Kind: api.MsAppended, From: from, To: to, Term: term, Yes: yes, Slot: slot}
}

func hands(from, to int, term, slot, last int64, index, many int, data string) api.Msg {
	return api.Msg{Kind: api.MsPart, From: from, To: to, Term: term, Slot: slot, Last: last, Part: api.Part{Slot: slot, Index: index, Many: many, Data: []byte(data)}}
}

func forwards(from, to int, x api.Entry) api.Msg {
	return api.Msg{Kind: api.MsForward, From: from, To: to, Entry: x}
}

// texts are messages as one text, in which empty and nil lists are the same.
func texts(l ...api.Msg) string {
	var b strings.Builder
	for _, m := range l {
		fmt.Fprintf(&b, "%+v\n", m)
	}
	return b.String()
}

// says fails the test, unless a call has answered just these messages, and each of them may be.
func says(t testing.TB, want ...api.Msg) func(got []api.Msg, e api.Errno) {
	t.Helper()
	return func(got []api.Msg, e api.Errno) {
		t.Helper()
		if e != api.OK || texts(got...) != texts(want...) {
			t.Errorf("%d\n%snot\n%s", e, texts(got...), texts(want...))
		}
		for _, m := range got {
			if record.CheckMsg(m) != api.OK {
				t.Error("may not be:", m)
			}
		}
	}
}

// seen is all that a replica and its keeper tell of themselves, as a text.
func (o *one) seen() string {
	leader, known := o.Leader()
	return fmt.Sprint("role ", o.Role(), " term ", o.Term(), " leader ", leader, known, " told ", o.Told(), " first ", o.First(), " upto ", o.Upto(), " broken ", o.Broken(), "\n") + o.kept()
}

// kept is what its keeper tells.
func (o *one) kept() string {
	var b strings.Builder
	who, voted := o.k.Voted()
	s, has := o.k.State()
	fmt.Fprint(&b, "kept: term ", o.k.Term(), " vote ", who, voted, " first ", o.k.First(), " upto ", o.k.Upto(), " length ", o.k.Length(), " last ", o.k.Last(), " saved ", s.Slot, s.Last, string(s.Data), has, " broken ", o.k.Broken(), " room ", o.k.Room(), "\n")
	for slot, x := range o.k.All(0) {
		form, _ := record.Entry(x.Entry)
		fmt.Fprintf(&b, "%d %d %x\n", slot, x.Term, form)
	}
	return b.String()
}

// terms is the log as the terms of its entries, and the slot of the first one.
func (o *one) terms() string {
	l := []int64{}
	for _, x := range o.k.All(0) {
		l = append(l, x.Term)
	}
	return fmt.Sprint(o.k.First(), l)
}

// refuses fails the test, unless a call answers this error, and nothing is changed by it.
func (o *one) refuses(t testing.TB, want api.Errno) func(got []api.Msg, e api.Errno) {
	t.Helper()
	was, f := o.seen(), o.f.Clone()
	return func(got []api.Msg, e api.Errno) {
		t.Helper()
		if e != want || len(got) > 0 {
			t.Error(e, "not", want, got)
		}
		if now := o.seen(); now != was || !flash.Same(o.f, f) {
			t.Errorf("it was\n%sis\n%s", was, now)
		}
	}
}

// ticks lets so many ticks pass in which nothing is said.
func (o *one) ticks(t testing.TB, many int) {
	t.Helper()
	for range many {
		says(t)(o.Tick())
	}
}

// stands lets it stand, and answers its messages.
func (o *one) stands(t testing.TB, self int) []api.Msg {
	t.Helper()
	o.ticks(t, replica.Patience(self)-1)
	l, e := o.Tick()
	must(t, e)
	same(t, o.Role(), api.RoleStand)
	return l
}

// leads lets it stand and win, and answers its messages.
func (o *one) leads(t testing.TB, n, self int) []api.Msg {
	t.Helper()
	o.stands(t, self)
	var l []api.Msg
	for i, left := 0, n/2; left > 0; i++ {
		if i != self {
			x, e := o.Step(votes(i, self, o.Term(), true))
			must(t, e)
			l, left = x, left-1
		}
	}
	same(t, o.Role(), api.RoleLead)
	return l
}

// known fails the test, unless it knows just this leader of its term; -1: none.
func (o *one) known(t testing.TB, role int, leader int) {
	t.Helper()
	same(t, o.Role(), role)
	b, is := o.Leader()
	want := api.Ballot{Round: o.Term(), Replica: leader}
	if leader < 0 {
		want = api.Ballot{}
	}
	if b != want || is != (leader >= 0) {
		t.Error("leader", b, is, "not", want)
	}
}

// next fails the test, unless the next entry is this one.
func (o *one) next(t testing.TB, slot int64, want api.Entry) {
	t.Helper()
	got, x, is := o.Next()
	if got != slot || !is || !record.SameEntry(x, want) {
		t.Error("Next", got, x, is, "not", slot, want)
	}
	same(t, o.Told(), slot+1)
}

// nothing fails the test, unless neither a checkpoint nor an entry is to be told.
func (o *one) nothing(t testing.TB) {
	t.Helper()
	told := o.Told()
	if slot, x, is := o.Next(); slot != 0 || is || !record.SameEntry(x, api.Entry{}) {
		t.Error("Next", slot, x, is)
	}
	if slot, b, is := o.Restore(); slot != 0 || is || len(b) > 0 {
		t.Error("Restore", slot, b, is)
	}
	same(t, o.Told(), told)
}

// The first one of the chapter's examples.
func TestExampleAlone(t *testing.T) {
	o := begun(t, 1, 0)
	o.ticks(t, 3)
	o.known(t, api.RoleFollow, -1)
	o.nothing(t)
	o.ticks(t, 1)
	o.known(t, api.RoleLead, 0)
	o.next(t, 0, api.Entry{})
	o.nothing(t)
	says(t)(o.Propose(batch(7)))
	o.next(t, 1, batch(7))
	o.nothing(t)
}

// The second one.
func TestExampleThree(t *testing.T) {
	o := begun(t, 3, 0)
	o.ticks(t, 3)
	says(t, asks(0, 1, 1, 0, 0), asks(0, 2, 1, 0, 0))(o.Tick())
	o.known(t, api.RoleStand, -1)
	says(t, sends(0, 1, 1, 0, 0, 0, termed(1, api.Entry{})), sends(0, 2, 1, 0, 0, 0, termed(1, api.Entry{})))(o.Step(votes(1, 0, 1, true)))
	o.known(t, api.RoleLead, 0)
	o.nothing(t)
	says(t)(o.Step(tells(2, 0, 1, true, 1)))
	o.next(t, 0, api.Entry{})
	says(t, sends(0, 1, 1, 1, 1, 1), sends(0, 2, 1, 1, 1, 1))(o.Tick())
}

// Words: how long a replica waits.
func TestPatience(t *testing.T) {
	for self, want := range map[int]int{math.MinInt: 0, -2: 0, -1: 0, 0: 4, 1: 6, 2: 8, 3: 10, 4: 12, 5: 0, 6: 0, math.MaxInt: 0} {
		same(t, replica.Patience(self), want)
	}
}

// P10.1: which places there are.
func TestNewPlaces(t *testing.T) {
	edges := []int{math.MinInt, -1, 0, 1, 2, 3, 4, 5, 6, math.MaxInt}
	for _, n := range edges {
		for _, self := range edges {
			f, k := kept(t, 8)
			was := f.Clone()
			r, e := replica.New(api.Conf{N: n, Self: self}, k)
			if n < 1 || n > 5 || self < 0 || self >= n {
				if r != nil || e != api.ErrArg {
					t.Error(n, self, r, e)
				}
				// the place is asked about ahead of the keeper
				if r, e = replica.New(api.Conf{N: n, Self: self}, nil); r != nil || e != api.ErrArg {
					t.Error(n, self, r, e)
				}
				continue
			}
			if r == nil || e != api.OK {
				t.Fatal(n, self, r, e)
			}
			o := &one{r, f, k}
			o.known(t, api.RoleFollow, -1)
			o.nothing(t)
			same(t, o.Term(), 0)
			same(t, flash.Same(f, was), true)
			o.ticks(t, replica.Patience(self)-1)
			o.known(t, api.RoleFollow, -1)
			must(t, func() api.Errno { _, e := o.Tick(); return e }())
			same(t, o.Role() != api.RoleFollow, true)
		}
	}
}

// P10.1: keepers that no call made.
func TestNewKeepers(t *testing.T) {
	for _, k := range []*keeper.Keeper{nil, {}} {
		r, e := replica.New(api.Conf{N: 3, Self: 1}, k)
		if r != nil || e != api.ErrMade {
			t.Error(r, e)
		}
	}
}

// P10.1: what a replica begins with is what its keeper has.
func TestNewOverSomething(t *testing.T) {
	for _, x := range []struct {
		n, who int
		want   api.Errno
	}{{1, -1, api.OK}, {1, 0, api.OK}, {1, 1, api.ErrArg}, {3, -1, api.OK}, {3, 0, api.OK}, {3, 2, api.OK}, {3, 3, api.ErrArg}, {4, 3, api.OK}, {3, 4, api.ErrArg}, {5, 4, api.OK}} {
		f, k := kept(t, 8, hasVote(7, x.who), hasLog(2, 3, 5), hasChosen(2))
		was := f.Clone()
		r, e := replica.New(api.Conf{N: x.n, Self: 0}, k)
		if e != x.want || (r == nil) != (e != api.OK) {
			t.Error(x, r, e)
		}
		same(t, flash.Same(f, was), true)
		if e != api.OK {
			continue
		}
		o := &one{r, f, k}
		o.known(t, api.RoleFollow, -1)
		same(t, o.Term(), 7)
		same(t, o.Told(), 0)
		same(t, o.First(), 0)
		same(t, o.Upto(), 2)
		o.next(t, 0, list(0, 2)[0].Entry)
		o.next(t, 1, list(1, 3)[0].Entry)
		o.nothing(t)
	}
}

// P10.1: the vote that the keeper has is given: in its term nobody else gets one, and it does not stand by it.
func TestNewHasVoted(t *testing.T) {
	o := begun(t, 3, 0, hasVote(7, 2))
	says(t, votes(0, 1, 7, false))(o.Step(asks(1, 0, 7, 9, 9)))
	says(t, votes(0, 2, 7, true))(o.Step(asks(2, 0, 7, 9, 9)))
	o = begun(t, 3, 0, hasVote(7, 0))
	says(t)(o.Step(votes(1, 0, 7, true)))
	says(t)(o.Step(votes(2, 0, 7, true)))
	o.known(t, api.RoleFollow, -1)
	o = begun(t, 3, 0, hasVote(7, -1))
	says(t, votes(0, 1, 7, true))(o.Step(asks(1, 0, 7, 9, 9)))
}

// P10.1, P10.5: a checkpoint that the keeper has is told first.
func TestNewOverState(t *testing.T) {
	o := begun(t, 3, 0, hasLog(2, 3, 5), hasChosen(2), hasState(2, "two"))
	same(t, o.Told(), 0)
	same(t, o.First(), 2)
	if slot, x, is := o.Next(); slot != 0 || is || x.Kind != 0 {
		t.Error(slot, x, is)
	}
	if slot, b, is := o.Restore(); slot != 2 || string(b) != "two" || !is {
		t.Error(slot, b, is)
	}
	same(t, o.Told(), 2)
	o.nothing(t)
	must(t, o.k.Commit(3))
	o.next(t, 2, list(2, 5)[0].Entry)
	o.nothing(t)
}

// P10.1: a keeper that is broken has been made; what it has is told, and nothing is done.
func TestNewOverABrokenOne(t *testing.T) {
	f, k := kept(t, 8, hasVote(3, 1), hasLog(2), hasChosen(1))
	must(t, f.Crash())
	same(t, k.Vote(9, 1), api.ErrDown)
	o := over(t, f, k, 3, 0)
	same(t, o.Broken(), true)
	same(t, o.Term(), 3)
	o.refuses(t, api.ErrBroken)(o.Tick())
	o.next(t, 0, list(0, 2)[0].Entry)
}
