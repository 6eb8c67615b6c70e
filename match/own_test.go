package match_test

import (
	"math"
	"slices"
	"testing"

	"trivet/api"
	"trivet/match"
)

// changes is what may be done to book's one.
func changes() map[string]func(m *match.Match) {
	return map[string]func(m *match.Match){
		"grow": func(m *match.Match) { m.Grow(11) },
		"sent": func(m *match.Match) { m.Sent(1, 8) },
		"yes":  func(m *match.Match) { m.Told(1, true, 9) },
		"no":   func(m *match.Match) { m.Told(2, false, 3) },
	}
}

// P8.3, R3: Lagging may be broken off at any point, and be gone through again, also within itself.
func TestLaggingAgain(t *testing.T) {
	m := made(t, 5, 1, 4)
	m.Told(3, true, 4)
	l, want := m.Lagging(), []int{0, 2, 4}
	for stop := range len(want) + 2 {
		var got []int
		for i := range l {
			if len(got) == stop {
				break
			}
			got = append(got, i)
		}
		if !slices.Equal(got, want[:min(stop, len(want))]) {
			t.Error(stop, got)
		}
	}
	for range 2 {
		if got := slices.Collect(l); !slices.Equal(got, want) {
			t.Error(got)
		}
	}
	for i := range l {
		if got := slices.Collect(l); !slices.Equal(got, want) {
			t.Error(i, got)
		}
	}
}

// R3: what Lagging answered tells what was there when it was asked for, whatever is done behind that, also while it is gone through.
func TestLaggingAsItWas(t *testing.T) {
	all := func(m *match.Match) {
		m.Told(1, true, 9)
		m.Told(2, true, 9)
	}
	for _, do := range []func(m *match.Match){
		all,
		func(m *match.Match) { m.Told(2, true, 9) },
		func(m *match.Match) { m.Grow(10) },
	} {
		m := book(t)
		l := m.Lagging()
		do(m)
		for range 2 {
			if got := slices.Collect(l); !slices.Equal(got, []int{1, 2}) {
				t.Error(got)
			}
		}
		m = book(t)
		var got []int
		for i := range m.Lagging() {
			do(m)
			got = append(got, i)
		}
		if !slices.Equal(got, []int{1, 2}) {
			t.Error("while it is gone through:", got)
		}
	}
	m := book(t)
	all(m)
	l := m.Lagging()
	m.Grow(10)
	if got := slices.Collect(l); len(got) > 0 {
		t.Error("those that did not lag:", got)
	}
}

// P8.3, R3: a clone is the same, and what is done to either is not seen of the other.
func TestClone(t *testing.T) {
	for name, do := range changes() {
		m := book(t)
		w := m.Clone()
		if w == m {
			t.Fatal("it is itself")
		}
		is(t, w, bookSeen())
		do(m)
		is(t, w, bookSeen())
		if look(m, 3).same(bookSeen()) {
			t.Error(name, "did nothing")
		}
		do(w)
		is(t, w, look(m, 3))
		m = book(t)
		do(m.Clone())
		is(t, m, bookSeen())
	}
}

// P8.3: a clone is of the same group and the same place in it.
func TestCloneGoesOn(t *testing.T) {
	for n := 1; n <= api.MaxReplicas; n++ {
		for self := range n {
			m := made(t, n, self, 3).Clone()
			same(t, m.Grow(4), api.OK)
			for i := -1; i <= n; i++ {
				want := api.OK
				if i < 0 || i == self || i == n {
					want = api.ErrWho
				}
				m = m.Clone()
				same(t, m.Sent(i, 4), want)
				_, e := m.Told(i, true, 4)
				same(t, e, want)
			}
			same(t, m.Agreed(), 4)
			same(t, len(slices.Collect(m.Lagging())), 0)
		}
	}
}

// R3: two that are made alike have nothing of each other.
func TestMadeApart(t *testing.T) {
	for name, do := range changes() {
		m, w := book(t), book(t)
		do(m)
		is(t, w, bookSeen())
		do(w)
		if !look(m, 3).same(look(w, 3)) {
			t.Error(name, look(m, 3), look(w, 3))
		}
	}
}

// P8.3, R1, R2, R5: a book that no call made, nil or a zero struct, answers ErrMade, or nothing, and does nothing, whatever it is asked.
func TestOneThatNoCallMade(t *testing.T) {
	var none *match.Match
	for _, m := range []*match.Match{none, {}} {
		for range 2 {
			for _, slot := range []int64{math.MinInt64, -1, 0, 1, 5, maxTime, maxTime + 1, math.MaxInt64} {
				same(t, m.Grow(slot), api.ErrMade)
				for _, i := range []int{math.MinInt, -1, 0, 1, 4, 5, math.MaxInt} {
					same(t, m.Sent(i, slot), api.ErrMade)
					for _, yes := range []bool{true, false} {
						more, e := m.Told(i, yes, slot)
						same(t, more, false)
						same(t, e, api.ErrMade)
					}
					same(t, m.Next(i), 0)
					same(t, m.Like(i), 0)
				}
			}
			if m.Clone() != nil {
				t.Error("a clone of none")
			}
			if m.Lagging() == nil {
				t.Fatal("no iterator")
			}
			is(t, m, seen{next: make([]int64, 5), like: make([]int64, 5)})
		}
		same(t, m == nil || *m == match.Match{}, true)
	}
}

// THE BOUND: a call takes the same however long the log is.
func TestMemory(t *testing.T) {
	m := made(t, 5, 0, 0)
	pieces := func() float64 {
		return testing.AllocsPerRun(100, func() {
			m.Grow(m.Length() + 1)
			for i := range 5 {
				m.Sent(i, m.Length())
				m.Told(i, false, m.Length()-1)
				m.Told(i, true, m.Length())
			}
			for range m.Lagging() {
			}
			m.Clone()
		})
	}
	short := pieces()
	m.Grow(maxTime / 2)
	if long := pieces(); long != short || long > 40 {
		t.Error(short, long, "pieces of memory")
	}
}
