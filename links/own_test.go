package links_test

import (
	"reflect"
	"runtime"
	"slices"
	"testing"

	"trivet/api"
	"trivet/record"
)

// rich is a message of each kind, with lists in lists, and a long one.
func rich(p api.Way) []api.Msg {
	x := api.Txn{Session: 1, Request: 2, Code: []byte{3, 4}, Args: []int64{5, -6}, Reads: []api.Key{{Table: 1, Row: 7}}, Writes: []api.Key{{Table: 1, Row: 8}, {Table: 2, Row: -9}}}
	e := api.Entry{Kind: api.EnBatch, From: 3, Number: 10, Txns: []api.Txn{x, record.CloneTxn(x)}}
	l := []api.Termed{{Term: 1, Entry: record.CloneEntry(e)}, {Term: 2}, {Term: 2, Entry: record.CloneEntry(e)}}
	return []api.Msg{
		{Kind: api.MsVote, From: p.From, To: p.To, Term: 4, Slot: 3, Last: 2},
		{Kind: api.MsVoted, From: p.From, To: p.To, Term: 4, Yes: true},
		{Kind: api.MsAppend, From: p.From, To: p.To, Term: 4, Slot: 3, Last: 2, Commit: 1, List: l},
		{Kind: api.MsAppended, From: p.From, To: p.To, Term: 4, Yes: true, Slot: 300},
		{Kind: api.MsPart, From: p.From, To: p.To, Term: 4, Slot: 5, Last: 6, Part: api.Part{Slot: 5, Index: 1, Many: 2, Data: make([]byte, 700)}},
		{Kind: api.MsForward, From: p.From, To: p.To, Entry: e},
	}
}

// lists does something to each list that v has in it, with all its room.
func lists(v reflect.Value, do func(reflect.Value)) {
	switch v.Kind() {
	case reflect.Struct:
		for i := range v.NumField() {
			lists(v.Field(i), do)
		}
	case reflect.Slice:
		if v.Cap() > 0 {
			v = v.Slice(0, v.Cap())
			do(v)
		}
		for i := range v.Len() {
			lists(v.Index(i), do)
		}
	}
}

// scribble writes over all that messages have in their lists.
func scribble(l ...api.Msg) {
	for _, m := range l {
		lists(reflect.ValueOf(m), func(v reflect.Value) {
			for i := range v.Len() {
				if x := v.Index(i); x.Kind() == reflect.Uint8 {
					x.SetUint(77)
				} else if x.Kind() == reflect.Int64 {
					x.SetInt(77)
				} else if x.Type() == reflect.TypeFor[api.Key]() {
					x.Set(reflect.ValueOf(api.Key{Table: 77, Row: 77}))
				}
			}
		})
	}
}

// P3.1, R3: messages that are handed in are not written to, and what their owner does to them afterwards is not seen.
func TestSentIsCopied(t *testing.T) {
	l := made(t, 2)
	m := rich(there)
	sends(t, l, m...)
	if !slices.EqualFunc(m, rich(there), record.SameMsg) {
		t.Fatal("written to")
	}
	scribble(m...)
	clear(m)
	holds(t, l, there, rich(there)...)
}

// P3.2, P3.3, R3: what is answered is nobody else's, also of a message that was doubled, of one that a clone has, and of an iterator that is gone through again.
func TestAnswersAreNobodyElses(t *testing.T) {
	for i, m := range rich(there) {
		l := made(t, 2)
		sends(t, l, m)
		same(t, l.Twice(there), api.OK)
		same(t, l.Spoil(there, 0, 0), api.OK)
		c := l.Clone()
		all := l.All()
		want := []api.Msg{rich(there)[i], rich(there)[i]}
		f, _ := l.Front(there)
		scribble(f)
		holds(t, l, there, want...)
		for range 2 {
			n := 0
			for _, x := range all {
				if !record.SameMsg(x, m) {
					t.Fatal(x)
				}
				scribble(x)
				n++
			}
			if n != 2 {
				t.Fatal(n)
			}
		}
		holds(t, l, there, want...)
		x, e := l.Pass(there)
		if e != api.OK || !record.SameMsg(x, m) {
			t.Fatal(x, e)
		}
		scribble(x)
		holds(t, l, there, want[1:]...)
		holds(t, c, there, want...)
		for _, x := range all {
			if !record.SameMsg(x, m) {
				t.Fatal(x)
			}
		}
		y, _ := l.Pass(there)
		scribble(y)
		holds(t, c, there, want...)
		apart(t, m, x)
	}
}

// apart fails the test, if two lists of what is given share memory.
func apart(t *testing.T, l ...api.Msg) {
	t.Helper()
	seen := map[uintptr]bool{}
	for _, m := range l {
		lists(reflect.ValueOf(m), func(v reflect.Value) {
			if seen[v.Pointer()] {
				t.Error("shared:", m.Kind, v.Type())
			}
			seen[v.Pointer()] = true
		})
	}
}

// spent is how many bytes do takes.
func spent(do func()) uint64 {
	var a, b runtime.MemStats
	runtime.ReadMemStats(&a)
	do()
	runtime.ReadMemStats(&b)
	return b.TotalAlloc - a.TotalAlloc
}

// THE BOUND: a call on pipes that are full takes no more than what they hold; one that answers a number, next to nothing.
func TestBound(t *testing.T) {
	l := made(t, 5)
	for from := range 5 {
		for to := range 5 {
			l.Send(upTo(api.Way{From: from, To: to}, api.MaxPipe)...)
		}
	}
	if l.Len() != 20*api.MaxPipe {
		t.Fatal(l.Len())
	}
	held := uint64(l.Len()) * uint64(reflect.TypeFor[api.Msg]().Size())
	for name, do := range map[string]func(){
		"All":   func() { l.All() },
		"Clone": func() { l.Clone() },
		"Front": func() { l.Front(there) },
		"Turn":  func() { l.Turn(there) },
		"Len":   func() { l.Len() },
		"Spoil": func() { l.Spoil(there, 0, 0) },
		"Send":  func() { l.Send(vote(there, 1)) },
	} {
		most := 2*held + 1<<12
		if name != "All" && name != "Clone" {
			most = 1 << 17
		}
		if n := spent(do); n > most {
			t.Error(name, n, "bytes")
		}
	}
}

// What is gone is not kept: a pipe that messages go through holds no more than those that are in it.
func TestGoneIsNotKept(t *testing.T) {
	l := made(t, 2)
	big := api.Msg{Kind: api.MsPart, To: 1, Part: api.Part{Many: 1, Data: make([]byte, api.MaxData)}}
	for range 4000 {
		sends(t, l, big)
		if _, e := l.Pass(there); e != api.OK {
			t.Fatal(e)
		}
	}
	for range api.MaxPipe {
		sends(t, l, big)
	}
	full := live()
	l.Lose(there, api.MaxPipe)
	if empty := live(); full < empty+api.MaxPipe*api.MaxData/2 {
		t.Error("full:", full, "empty:", empty)
	}
	runtime.KeepAlive(l)
}

// live is how many bytes are in use.
func live() uint64 {
	var m runtime.MemStats
	runtime.GC()
	runtime.ReadMemStats(&m)
	return m.HeapAlloc
}

// R6: the same calls answer the same.
func TestTheSameAgain(t *testing.T) {
	run := func() string {
		l, s := made(t, 5), ""
		for i := range 200 {
			p := api.Way{From: i % 5, To: (i * 7) % 5}
			l.Send(append(rich(p), vote(p, int64(i)))...)
			l.Turn(p)
			l.Spoil(p, i, byte(i))
			if i%50 == 0 {
				s += told(l)
			}
		}
		return s + told(l)
	}
	if run() != run() {
		t.Error("not the same")
	}
}
