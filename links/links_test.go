package links_test

import (
	"bytes"
	"fmt"
	"math"
	"slices"
	"testing"

	"trivet/api"
	"trivet/links"
	"trivet/record"
)

// there and back are the ways most tests go by.
var (
	there = api.Way{From: 0, To: 1}
	back  = api.Way{From: 1, To: 0}
)

func made(t *testing.T, n int) *links.Links {
	t.Helper()
	l, e := links.New(n)
	if e != api.OK || l == nil {
		t.Fatal(n, l, e)
	}
	return l
}

// vote is a message that is told from others by its term.
func vote(p api.Way, term int64) api.Msg {
	return api.Msg{Kind: api.MsVote, From: p.From, To: p.To, Term: term}
}

func votes(p api.Way, terms ...int64) (l []api.Msg) {
	for _, n := range terms {
		l = append(l, vote(p, n))
	}
	return l
}

// upTo is votes of the terms 1 to n.
func upTo(p api.Way, n int) (l []api.Msg) {
	for i := range n {
		l = append(l, vote(p, int64(i)+1))
	}
	return l
}

// sends fails the test, if not all of the messages come to their pipes.
func sends(t *testing.T, l *links.Links, m ...api.Msg) {
	t.Helper()
	if n := l.Send(m...); n != len(m) {
		t.Fatal(n, "of", len(m), "sent")
	}
}

// same fails the test where an error is not the one that is asked for.
func same(t *testing.T, got, want api.Errno) {
	t.Helper()
	if got != want {
		t.Error("answers", got, "not", want)
	}
}

// holds fails the test, if a pipe has other messages than these, or tells its first one or their number otherwise.
func holds(t *testing.T, l *links.Links, p api.Way, want ...api.Msg) {
	t.Helper()
	var got []api.Msg
	for q, m := range l.All() {
		if q == p {
			got = append(got, m)
		}
	}
	if !slices.EqualFunc(got, want, record.SameMsg) || l.Many(p) != len(want) {
		t.Fatal(p, "has", got, l.Many(p), "not", want)
	}
	m, is := l.Front(p)
	if is != (len(want) > 0) || is && !record.SameMsg(m, want[0]) || !is && !record.SameMsg(m, api.Msg{}) {
		t.Fatal(p, "begins with", m, is, "not", want)
	}
}

// told is all that can be read of links.
func told(l *links.Links) string {
	s := fmt.Sprint(l.Len())
	for from := range api.MaxReplicas {
		for to := range api.MaxReplicas {
			p := api.Way{From: from, To: to}
			m, is := l.Front(p)
			s += fmt.Sprint(" ", p, l.Whole(p), l.Many(p), m, is)
		}
	}
	for p, m := range l.All() {
		s += fmt.Sprint(" ", p, m)
	}
	return s
}

func good(p api.Way, n int) bool {
	return p.From >= 0 && p.From < n && p.To >= 0 && p.To < n && p.From != p.To
}

// around is pairs of n replicas, good ones and others: all of -1 to n, and those at the ends of the numbers.
func around(n int) (l []api.Way) {
	at := []int{math.MinInt, math.MaxInt, math.MinInt32, 1 << 30, 256}
	for i := -1; i <= n; i++ {
		at = append(at, i)
	}
	for _, from := range at {
		for _, to := range at {
			l = append(l, api.Way{From: from, To: to})
		}
	}
	return l
}

// P3.1: New takes 1 to MaxReplicas; its pipes are empty, its pairs whole, and these are the good ones, and no others.
func TestNew(t *testing.T) {
	for _, n := range []int{math.MinInt, -1, 0, 6, 7, 1 << 30, math.MaxInt} {
		if l, e := links.New(n); l != nil || e != api.ErrArg {
			t.Error(n, l, e)
		}
	}
	for n := 1; n <= 5; n++ {
		l := made(t, n)
		if l.Len() != 0 {
			t.Error(n, l.Len())
		}
		for p := range l.All() {
			t.Error(n, p)
		}
		sent := 0
		for _, p := range around(n) {
			if l.Whole(p) != good(p, n) || l.Many(p) != 0 {
				t.Error(n, p, l.Whole(p), l.Many(p))
			}
			if l.Send(vote(p, 1)) == 1 != good(p, n) {
				t.Error(n, p, "was sent, or was not")
			}
			if good(p, n) {
				sent++
				holds(t, l, p, vote(p, 1))
			}
		}
		if l.Len() != sent || sent != n*(n-1) {
			t.Error(n, l.Len(), sent)
		}
	}
}

// P3.2, R2: a pair that is not good answers ErrArg, false or 0 of each call, whatever else it is asked with, and nothing is changed.
func TestPairs(t *testing.T) {
	for n := 1; n <= 5; n++ {
		l := made(t, n)
		for _, p := range around(n) {
			l.Send(vote(p, 1), vote(p, 2))
		}
		if n > 1 {
			same(t, l.Cut(there), api.OK)
		}
		was := told(l)
		for _, p := range around(n) {
			if good(p, n) {
				continue
			}
			if m, is := l.Front(p); is || !record.SameMsg(m, api.Msg{}) {
				t.Error(n, p, m, is)
			}
			if m, e := l.Pass(p); e != api.ErrArg || !record.SameMsg(m, api.Msg{}) {
				t.Error(n, p, m, e)
			}
			if l.Lose(p, 1) != 0 || l.Whole(p) || l.Many(p) != 0 {
				t.Error(n, p, l.Whole(p), l.Many(p))
			}
			for _, e := range []api.Errno{l.Twice(p), l.Turn(p), l.Spoil(p, 0, 1), l.Spoil(p, -1, 0), l.Cut(p), l.Join(p)} {
				same(t, e, api.ErrArg)
			}
		}
		if told(l) != was {
			t.Error(n, "changed")
		}
	}
}

// R2: the order of the errors: what no call made; a pair that is not good; an empty pipe; a full one, or a place that is none. An error changes nothing.
func TestErrorsInOrder(t *testing.T) {
	var none *links.Links
	for _, p := range []api.Way{{}, there, {From: -1, To: 9}} {
		_, e := none.Pass(p)
		for _, e := range []api.Errno{e, none.Twice(p), none.Turn(p), none.Spoil(p, -1, 1), none.Cut(p), none.Join(p)} {
			same(t, e, api.ErrMade)
		}
	}
	l := made(t, 2)
	sends(t, l, upTo(back, api.MaxPipe)...)
	was := told(l)
	_, e := l.Pass(there)
	for _, e := range []api.Errno{e, l.Twice(there), l.Turn(there), l.Spoil(there, -1, 1), l.Spoil(there, 0, 0)} {
		same(t, e, api.ErrNone)
	}
	same(t, l.Twice(back), api.ErrFull)
	same(t, l.Spoil(back, -1, 1), api.ErrArg)
	if told(l) != was {
		t.Error("changed")
	}
	same(t, l.Cut(back), api.OK)
	_, e = l.Pass(back)
	for _, e := range []api.Errno{e, l.Twice(back), l.Turn(back), l.Spoil(back, 0, 0)} {
		same(t, e, api.ErrNone)
	}
}

// unfit is messages on a good pair that record.CheckMsg does not take.
func unfit() []api.Msg {
	kind, term, field, batch, part := vote(there, 1), vote(there, -1), vote(there, 1), vote(there, 1), vote(there, 1)
	kind.Kind = 7
	field.Yes = true
	batch = api.Msg{Kind: api.MsForward, To: 1, Entry: api.Entry{Kind: api.EnBatch}}
	part = api.Msg{Kind: api.MsPart, To: 1, Part: api.Part{Many: 1, Index: 1}}
	return []api.Msg{{To: 1}, kind, term, field, batch, part, vote(there, api.MaxTime+1)}
}

// P3.1: Send takes what may be, on good pairs that are whole, as far as there is room; each message by itself.
func TestSend(t *testing.T) {
	l := made(t, 3)
	if l.Send() != 0 || l.Send([]api.Msg{}...) != 0 || l.Len() != 0 {
		t.Error("nothing was sent")
	}
	bad := unfit()
	for _, m := range bad {
		if record.CheckMsg(m) == api.OK || l.Send(m) != 0 || l.Len() != 0 {
			t.Error("sent:", m)
		}
	}
	far, self := api.Way{From: 0, To: 3}, api.Way{From: 2, To: 2}
	other := api.Way{From: 2, To: 1}
	m := []api.Msg{bad[0], vote(there, 1), vote(self, 2), vote(other, 3), bad[1], vote(far, 4), vote(there, 5), bad[2]}
	if n := l.Send(m...); n != 3 || l.Len() != 3 {
		t.Error(n, l.Len())
	}
	holds(t, l, there, votes(there, 1, 5)...)
	holds(t, l, other, vote(other, 3))
	holds(t, l, back)
}

// P3.1: a pipe takes MaxPipe messages; behind them others are lost till there is room; the other pipes have their own room.
func TestFullPipe(t *testing.T) {
	l := made(t, 2)
	all := upTo(there, api.MaxPipe+2)
	sends(t, l, all[:api.MaxPipe-1]...)
	if n := l.Send(all[api.MaxPipe-1:]...); n != 1 || l.Many(there) != 256 {
		t.Fatal(n, l.Many(there))
	}
	holds(t, l, there, all[:api.MaxPipe]...)
	if n := l.Send(vote(there, 7), vote(back, 8), vote(there, 9)); n != 1 || l.Len() != 257 {
		t.Fatal(n, l.Len())
	}
	if m, e := l.Pass(there); e != api.OK || m.Term != 1 {
		t.Fatal(m, e)
	}
	if n := l.Send(vote(there, 900), vote(there, 901)); n != 1 {
		t.Fatal(n)
	}
	holds(t, l, there, append(all[1:api.MaxPipe:api.MaxPipe], vote(there, 900))...)
	if n := l.Send(upTo(back, 300)...); n != 255 {
		t.Fatal(n)
	}
}

// P3.2: Front leaves its message, Pass takes it, each of its own pipe.
func TestFrontAndPass(t *testing.T) {
	l := made(t, 3)
	sends(t, l, vote(there, 1), vote(back, 2), vote(there, 3))
	for range 3 {
		if m, is := l.Front(there); !is || !record.SameMsg(m, vote(there, 1)) {
			t.Fatal(m, is)
		}
	}
	for _, want := range []int64{1, 3} {
		if m, e := l.Pass(there); e != api.OK || !record.SameMsg(m, vote(there, want)) {
			t.Fatal(m, e)
		}
	}
	if m, e := l.Pass(there); e != api.ErrNone || !record.SameMsg(m, api.Msg{}) {
		t.Fatal(m, e)
	}
	holds(t, l, there)
	holds(t, l, back, vote(back, 2))
}

// P3.2: Lose takes n of them, or as many as there are, and none for an n below 1.
func TestLose(t *testing.T) {
	for _, has := range []int{0, 1, 2, 5, api.MaxPipe} {
		for _, n := range []int{math.MinInt, -1, 0, 1, 2, 4, 5, 6, api.MaxPipe - 1, api.MaxPipe, api.MaxPipe + 1, math.MaxInt} {
			l := made(t, 2)
			all := upTo(there, has)
			sends(t, l, all...)
			sends(t, l, vote(back, 1))
			gone := max(0, min(n, has))
			if got := l.Lose(there, n); got != gone {
				t.Error(has, n, got)
			}
			holds(t, l, there, all[gone:]...)
			holds(t, l, back, vote(back, 1))
		}
	}
}

// P3.2: Twice puts the first one to the end, too, while there is room.
func TestTwice(t *testing.T) {
	l := made(t, 2)
	sends(t, l, vote(there, 1))
	same(t, l.Twice(there), api.OK)
	holds(t, l, there, votes(there, 1, 1)...)
	sends(t, l, vote(there, 2))
	same(t, l.Twice(there), api.OK)
	holds(t, l, there, votes(there, 1, 1, 2, 1)...)
	all := upTo(back, api.MaxPipe-1)
	sends(t, l, all...)
	same(t, l.Twice(back), api.OK)
	same(t, l.Twice(back), api.ErrFull)
	holds(t, l, back, append(all, vote(back, 1))...)
	if l.Lose(back, 1) != 1 {
		t.Fatal(l.Many(back))
	}
	same(t, l.Twice(back), api.OK)
	holds(t, l, back, append(all[1:], votes(back, 1, 2)...)...)
}

// P3.2: Turn puts the first one to the end, in a full pipe and where it is alone, too.
func TestTurn(t *testing.T) {
	l := made(t, 2)
	sends(t, l, vote(there, 1))
	same(t, l.Turn(there), api.OK)
	holds(t, l, there, vote(there, 1))
	sends(t, l, votes(there, 2, 3)...)
	same(t, l.Turn(there), api.OK)
	holds(t, l, there, votes(there, 2, 3, 1)...)
	all := upTo(back, api.MaxPipe)
	sends(t, l, all...)
	same(t, l.Turn(back), api.OK)
	holds(t, l, back, append(all[1:], all[0])...)
}

// P3.2, P3.5: Spoil at each place, with each single bit, all bits and none: the first one is what the changed bytes say, which is nothing, but with 0.
func TestSpoil(t *testing.T) {
	for _, m := range rich(there) {
		b, e := record.Marshal(m)
		same(t, e, api.OK)
		l := made(t, 2)
		sends(t, l, m, vote(there, 9))
		for _, at := range []int{math.MinInt, -1, len(b), len(b) + 1, math.MaxInt} {
			for _, with := range []byte{0, 1, 255} {
				same(t, l.Spoil(there, at, with), api.ErrArg)
			}
		}
		holds(t, l, there, m, vote(there, 9))
		places := []int{0, 1, 2, len(b) / 2, len(b) - 2, len(b) - 1}
		if len(b) < 100 {
			places = nil
			for at := range b {
				places = append(places, at)
			}
		}
		for _, at := range places {
			same(t, l.Spoil(there, at, 0), api.OK)
			holds(t, l, there, m, vote(there, 9))
			for _, with := range []byte{1, 2, 4, 8, 16, 32, 64, 128, 255} {
				spoilt(t, m, b, at, with)
			}
		}
	}
}

func spoilt(t *testing.T, m api.Msg, b []byte, at int, with byte) {
	t.Helper()
	l := made(t, 2)
	sends(t, l, m, vote(there, 9))
	sends(t, l, vote(back, 8))
	same(t, l.Spoil(there, at, with), api.OK)
	c := bytes.Clone(b)
	c[at] ^= with
	if _, e := record.Unmarshal(c); e == api.OK {
		t.Error(m, at, with, "is another message: this test says too little")
	}
	holds(t, l, there, vote(there, 9))
	holds(t, l, back, vote(back, 8))
}

// P3.2: a message of which record.Marshal makes no bytes, as it is too long, goes its way, but has no place to be spoilt.
func TestTooLongToSpoil(t *testing.T) {
	m := api.Msg{Kind: api.MsAppend, To: 1}
	x := api.Txn{Session: 1, Request: 1, Code: make([]byte, api.MaxCode)}
	for range 130 {
		m.List = append(m.List, api.Termed{Entry: api.Entry{Kind: api.EnBatch, Txns: slices.Repeat([]api.Txn{x}, api.MaxTxns)}})
	}
	if _, e := record.Marshal(m); e != api.ErrLong {
		t.Fatal(e)
	}
	l := made(t, 2)
	sends(t, l, m)
	for _, at := range []int{-1, 0, 1, api.MaxBytes - 1} {
		same(t, l.Spoil(there, at, 1), api.ErrArg)
	}
	if g, e := l.Pass(there); e != api.OK || !record.SameMsg(g, m) {
		t.Error(e)
	}
}

// P3.2: Cut and Join go by either of the two ways round, and may come twice; what was in both pipes is gone, what is sent on a cut way is lost; other pairs stay as they are.
func TestCutAndJoin(t *testing.T) {
	ways := []api.Way{{From: 1, To: 2}, {From: 2, To: 1}}
	for _, cut := range ways {
		for _, join := range ways {
			for _, times := range []int{1, 2} {
				l := made(t, 3)
				for p := range whole(t, l) {
					sends(t, l, upTo(p, 3)...)
				}
				for range times {
					same(t, l.Cut(cut), api.OK)
				}
				for _, p := range ways {
					if l.Whole(p) || l.Send(vote(p, 5)) != 0 || l.Lose(p, 9) != 0 {
						t.Error(cut, p, "is not cut")
					}
					holds(t, l, p)
				}
				left := whole(t, l)
				if len(left) != 4 || l.Len() != 12 {
					t.Error(left, l.Len())
				}
				for p := range left {
					holds(t, l, p, upTo(p, 3)...)
				}
				for range times {
					same(t, l.Join(join), api.OK)
				}
				for _, p := range ways {
					holds(t, l, p)
					sends(t, l, vote(p, 6))
				}
				if len(whole(t, l)) != 6 || l.Len() != 14 {
					t.Error(whole(t, l), l.Len())
				}
			}
		}
	}
}

// P3.2: Join of a pair that is whole leaves what is under way.
func TestJoinOfWhole(t *testing.T) {
	l := made(t, 2)
	sends(t, l, vote(there, 1), vote(back, 2))
	was := told(l)
	same(t, l.Join(back), api.OK)
	if told(l) != was {
		t.Error(told(l))
	}
}

// whole is the pairs of links that are whole.
func whole(t *testing.T, l *links.Links) map[api.Way]int {
	t.Helper()
	got := map[api.Way]int{}
	for from := range 5 {
		for to := range 5 {
			if p := (api.Way{From: from, To: to}); l.Whole(p) {
				got[p]++
			}
		}
	}
	return got
}

// P3.3, R3: All goes by From, then by To, each pipe from its first one on; it tells what was there when it was asked for, may be left at any point, and be done again.
func TestAll(t *testing.T) {
	const n = 4
	type item struct {
		p    api.Way
		term int64
	}
	l := made(t, n)
	var want []item
	for from := n - 1; from >= 0; from-- {
		for to := n - 1; to >= 0; to-- {
			p := api.Way{From: from, To: to}
			l.Send(upTo(p, (from+2*to)%4)...)
		}
	}
	for from := range n {
		for to := range n {
			for i := range (from + 2*to) % 4 {
				if from != to {
					want = append(want, item{api.Way{From: from, To: to}, int64(i) + 1})
				}
			}
		}
	}
	all := l.All()
	look := func(most int) (got []item) {
		for p, m := range all {
			if m.From != p.From || m.To != p.To {
				t.Fatal(p, m)
			}
			got = append(got, item{p, m.Term})
			if len(got) == most {
				break
			}
		}
		return got
	}
	hold := func() {
		t.Helper()
		for most := 1; most <= len(want)+1; most++ {
			if got := look(most); !slices.Equal(got, want[:min(most, len(want))]) {
				t.Fatal(most, got, want)
			}
		}
	}
	hold()
	for p := range whole(t, l) {
		l.Turn(p)
		l.Twice(p)
		l.Lose(p, 1)
		l.Spoil(p, 0, 1)
		l.Send(vote(p, 77))
	}
	hold()
	for p := range whole(t, l) {
		same(t, l.Cut(p), api.OK)
	}
	hold()
	for p := range l.All() {
		t.Error(p)
	}
}

// P3.3, R3: links may be changed while they are gone through.
func TestAllWhileChanged(t *testing.T) {
	l := made(t, 2)
	sends(t, l, upTo(there, 5)...)
	n := int64(0)
	for p, m := range l.All() {
		n++
		if m.Term != n {
			t.Fatal(m, n)
		}
		if g, e := l.Pass(p); e != api.OK || g.Term != n {
			t.Fatal(g, e)
		}
		sends(t, l, vote(there, 50))
	}
	if n != 5 || l.Many(there) != 5 {
		t.Error(n, l.Many(there))
	}
}

// P3.3: a clone has the same pipes and the same cuts, and goes its own way.
func TestClone(t *testing.T) {
	l := made(t, 3)
	sends(t, l, upTo(there, 3)...)
	sends(t, l, upTo(back, 2)...)
	same(t, l.Cut(api.Way{From: 1, To: 2}), api.OK)
	was := told(l)
	changes := []func(*links.Links){
		func(l *links.Links) { l.Send(vote(there, 9)) },
		func(l *links.Links) { l.Pass(there) },
		func(l *links.Links) { l.Lose(back, 2) },
		func(l *links.Links) { l.Twice(back) },
		func(l *links.Links) { l.Turn(there) },
		func(l *links.Links) { l.Spoil(there, 0, 1) },
		func(l *links.Links) { l.Cut(there) },
		func(l *links.Links) { l.Join(api.Way{From: 2, To: 1}) },
	}
	for i, do := range changes {
		c := l.Clone()
		if told(c) != was {
			t.Fatal(i, told(c), was)
		}
		do(c)
		mark := told(c)
		if told(l) != was || mark == was {
			t.Error(i, "the links went with their clone, or nothing was done")
		}
		d := l.Clone()
		do(l)
		if told(l) != mark || told(d) != was {
			t.Error(i, "a clone does otherwise, or went with its links")
		}
		l = d
	}
}

// R5, P3.3: what no call made answers 0, ErrMade, false, nothing, nil.
func TestNotMade(t *testing.T) {
	for _, l := range []*links.Links{nil, {}} {
		for _, p := range []api.Way{there, {}, {From: -1, To: 8}} {
			if l.Send(vote(p, 1)) != 0 || l.Send() != 0 || l.Len() != 0 || l.Many(p) != 0 || l.Lose(p, 1) != 0 || l.Whole(p) {
				t.Error(p, "answers something")
			}
			if m, is := l.Front(p); is || !record.SameMsg(m, api.Msg{}) {
				t.Error(p, m, is)
			}
			m, e := l.Pass(p)
			if !record.SameMsg(m, api.Msg{}) {
				t.Error(p, m)
			}
			for _, e := range []api.Errno{e, l.Twice(p), l.Turn(p), l.Spoil(p, 0, 0), l.Cut(p), l.Join(p)} {
				same(t, e, api.ErrMade)
			}
		}
		for p := range l.All() {
			t.Error(p)
		}
		if c := l.Clone(); c != nil {
			t.Error(c)
		}
	}
}

// The chapter's example.
func TestExample(t *testing.T) {
	l := made(t, 2)
	sends(t, l, vote(there, 3))
	holds(t, l, there, vote(there, 3))
	holds(t, l, back)
	same(t, l.Cut(back), api.OK)
	holds(t, l, there)
	if l.Len() != 0 {
		t.Error(l.Len())
	}
}
