package replica_test

import (
	"math"
	"runtime"
	"testing"

	"trivet/api"
	"trivet/record"
	"trivet/replica"
)

// spoilEntry writes to all that an entry has memory of.
func spoilEntry(x api.Entry) {
	for i := range x.Txns {
		y := &x.Txns[i]
		for j := range y.Code {
			y.Code[j] ^= 255
		}
		for j := range y.Args {
			y.Args[j]++
		}
		for j := range y.Reads {
			y.Reads[j].Row--
		}
		for j := range y.Writes {
			y.Writes[j].Row--
		}
		y.Session, y.Request = 60, 60
		y.Code, y.Args = append(y.Code, 1), append(y.Args, 1)
	}
}

// spoil writes to all that a message has memory of, and behind it.
func spoil(m api.Msg) {
	for i := range m.List {
		spoilEntry(m.List[i].Entry)
		m.List[i].Term += 5
	}
	spoilEntry(m.Entry)
	for i := range m.Part.Data {
		m.Part.Data[i] ^= 255
	}
	_ = append(m.Part.Data, 1, 2, 3)
	_ = append(m.List, api.Termed{Term: 9})
}

// R3: what is handed in is neither written to nor kept.
func TestHandedIn(t *testing.T) {
	// proposed to the leader
	o := begun(t, 1, 0)
	o.ticks(t, 4)
	x := batch(3)
	says(t)(o.Propose(x))
	same(t, record.SameEntry(x, batch(3)), true)
	spoilEntry(x)
	o.next(t, 0, api.Entry{})
	o.next(t, 1, batch(3))
	// to another one
	o = begun(t, 3, 1)
	o.Step(sends(0, 1, 4, 0, 0, 0))
	x = batch(3)
	l, e := o.Propose(x)
	spoilEntry(x)
	says(t, forwards(1, 0, batch(3)))(l, e)
	x = batch(3)
	l, _ = o.Propose(x)
	spoil(l[0])
	same(t, record.SameEntry(x, batch(3)), true)
	// entries of a message
	m := sends(0, 1, 4, 0, 0, 2, list(0, 1, 2)...)
	says(t, tells(1, 0, 4, true, 2))(o.Step(m))
	same(t, record.SameMsg(m, sends(0, 1, 4, 0, 0, 2, list(0, 1, 2)...)), true)
	spoil(m)
	o.next(t, 0, list(0, 1)[0].Entry)
	o.next(t, 1, list(1, 2)[0].Entry)
	// of which some are left out
	must(t, o.Checkpoint(1, nil))
	m = sends(0, 1, 4, 0, 0, 2, list(0, 1, 2, 2)...)
	says(t, tells(1, 0, 4, true, 3))(o.Step(m))
	same(t, record.SameMsg(m, sends(0, 1, 4, 0, 0, 2, list(0, 1, 2, 2)...)), true)
	// parts
	a, b := hands(0, 1, 4, 9, 3, 0, 2, "abc"), hands(0, 1, 4, 9, 3, 1, 2, "def")
	says(t)(o.Step(a))
	same(t, string(a.Part.Data), "abc")
	spoil(a)
	says(t, tells(1, 0, 4, true, 9))(o.Step(b))
	spoil(b)
	o.installed(t, 9, 3, "abcdef")
	// forwarded
	o = begun(t, 2, 0)
	o.leads(t, 2, 0)
	m = forwards(1, 0, batch(5))
	l, _ = o.Step(m)
	spoil(m)
	says(t, sends(0, 1, 1, 1, 1, 0, termed(1, batch(5))))(l, api.OK)
	spoil(l[0])
	o.Step(tells(1, 0, 1, true, 2))
	o.next(t, 0, api.Entry{})
	o.next(t, 1, batch(5))
	// a checkpoint's data
	data := []byte("two")
	must(t, o.Checkpoint(2, data))
	same(t, string(data), "two")
	data[0] = 'x'
	s, _ := o.k.State()
	same(t, string(s.Data), "two")
}

// R3: what is answered is nobody else's, also not another message's of the same answer.
func TestHandedOut(t *testing.T) {
	data := filled(3*api.MaxData + 5)
	ask := func(o *one) []api.Msg {
		l, e := o.Tick()
		must(t, e)
		return l
	}
	begin := func() *one {
		f, k := kept(t, 128, hasLog(1, 1, 1), hasChosen(3), hasState(1, data))
		o := over(t, f, k, 5, 0)
		o.leads(t, 5, 0)
		for i := 1; i <= 2; i++ {
			o.Step(tells(i, 0, 1, false, 0))
		}
		o.Propose(batch(7))
		return o
	}
	was := texts(ask(begin())...)
	o := begin()
	for _, m := range ask(o) {
		spoil(m)
	}
	o.Step(tells(3, 0, 1, false, 1))
	same(t, texts(ask(o)...), was)
	// each message on its own: to spoil one leaves the others as they are
	l := ask(o)
	for i := range l {
		want := texts(l[i+1:]...)
		spoil(l[i])
		same(t, texts(l[i+1:]...), want)
	}
	l, _ = o.Step(tells(4, 0, 1, false, 1))
	again, _ := o.Step(tells(3, 0, 1, false, 1))
	spoil(l[0])
	same(t, again[0].List[0].Entry.Txns[0].Code[0], batch(1001).Txns[0].Code[0])
	// what is proposed goes to all others, each with its own
	l, _ = o.Propose(batch(8))
	spoil(l[0])
	same(t, record.SameEntry(l[1].List[0].Entry, batch(8)), true)
	// what is told
	slot, b, is := o.Restore()
	if slot != 1 || !is {
		t.Fatal(slot, is)
	}
	b[0] ^= 255
	s, _ := o.k.State()
	same(t, string(s.Data), data)
	x, _ := o.Chosen(1)
	spoilEntry(x)
	_, x, _ = o.Next()
	same(t, record.SameEntry(x, list(1, 1)[0].Entry), true)
	spoilEntry(x)
	x, _ = o.Chosen(1)
	same(t, record.SameEntry(x, list(1, 1)[0].Entry), true)
}

// R4: empty and nil lists are the same.
func TestEmptyLists(t *testing.T) {
	a, b := begun(t, 3, 1, hasLog(1)), begun(t, 3, 1, hasLog(1))
	for _, m := range []api.Msg{sends(0, 1, 3, 1, 1, 1), asks(0, 1, 4, 9, 9), hands(2, 1, 5, 7, 2, 0, 1, "")} {
		x := m
		x.List, x.Entry.Txns = []api.Termed{}, []api.Txn{}
		if m.Kind == api.MsPart {
			m.Part.Data = nil
		} else {
			x.Part.Data = []byte{}
		}
		k, e := a.Step(m)
		must(t, e)
		says(t, k...)(b.Step(x))
		same(t, a.seen(), b.seen())
	}
	says(t)(a.Step(forwards(0, 1, api.Entry{Txns: []api.Txn{}})))
	a.Restore()
	must(t, a.k.Append(7, api.Termed{Term: 5}))
	must(t, a.k.Commit(8))
	a.Next()
	must(t, a.Checkpoint(8, []byte{}))
}

// R5: one that no call made, nil or a zero struct, answers ErrMade, and nothing.
func TestOneThatNoCallMade(t *testing.T) {
	for _, r := range []*replica.Replica{nil, {}} {
		quiet := func(l []api.Msg, e api.Errno) {
			t.Helper()
			if len(l) > 0 || e != api.ErrMade {
				t.Error(l, e)
			}
		}
		for range 15 {
			quiet(r.Tick())
		}
		for _, m := range append(kinds(3), api.Msg{}, api.Msg{Kind: 99, To: -1}) {
			quiet(r.Step(m))
		}
		quiet(r.Propose(batch(1)))
		quiet(r.Propose(api.Entry{Kind: 9}))
		for _, slot := range []int64{math.MinInt64, -1, 0, 1, top, math.MaxInt64} {
			same(t, r.Checkpoint(slot, []byte("x")), api.ErrMade)
			if x, is := r.Chosen(slot); is || !record.SameEntry(x, api.Entry{}) {
				t.Error(x, is)
			}
		}
		if slot, b, is := r.Restore(); slot != 0 || len(b) > 0 || is {
			t.Error(slot, b, is)
		}
		if slot, x, is := r.Next(); slot != 0 || is || !record.SameEntry(x, api.Entry{}) {
			t.Error(slot, x, is)
		}
		if b, is := r.Leader(); b != (api.Ballot{}) || is {
			t.Error(b, is)
		}
		same(t, r.Role(), 0)
		same(t, r.Term(), 0)
		same(t, r.Told(), 0)
		same(t, r.First(), 0)
		same(t, r.Upto(), 0)
		same(t, r.Broken(), false)
	}
}

// R3: two replicas over keepers of their own have nothing of each other.
func TestMadeApart(t *testing.T) {
	a, b := begun(t, 3, 0), begun(t, 3, 0)
	a.leads(t, 3, 0)
	b.known(t, api.RoleFollow, -1)
	same(t, b.Term(), 0)
	b.ticks(t, 3)
}

// taken is how many bytes of memory a call takes.
func taken(do func()) uint64 {
	var a, b runtime.MemStats
	runtime.ReadMemStats(&a)
	do()
	runtime.ReadMemStats(&b)
	return b.TotalAlloc - a.TotalAlloc
}

// THE BOUND: calls on logs that are twice as long, with messages twice as long, take about twice as much.
func TestMemory(t *testing.T) {
	f, _ := kept(t, 1024)
	for name, do := range map[string]func(n int) func(){
		"take": func(n int) func() {
			o := opened(t, f.Clone(), 3, 1)
			m := sends(0, 1, 3, 0, 0, 0, list(0, repeat(2, n)...)...)
			return func() { o.Step(m) }
		},
		"take again": func(n int) func() {
			o := opened(t, f.Clone(), 3, 1)
			m := sends(0, 1, 3, 0, 0, 0, list(0, repeat(2, n)...)...)
			o.Step(m)
			return func() { o.Step(m) }
		},
		"place to try": func(n int) func() {
			o := opened(t, f.Clone(), 3, 1)
			o.Step(sends(0, 1, 3, 0, 0, 0, list(0, repeat(2, n)...)...))
			return func() { o.Step(sends(0, 1, 3, int64(n), 1, 0)) }
		},
		"propose": func(n int) func() {
			o := opened(t, f.Clone(), 5, 1)
			o.Step(sends(0, 1, 3, 0, 0, int64(n), list(0, repeat(2, n)...)...))
			o.leads(t, 5, 1)
			return func() { o.Propose(batch(1)) }
		},
		"parts": func(n int) func() {
			o := opened(t, f.Clone(), 3, 1)
			return func() {
				for i := range n / 32 {
					o.Step(hands(0, 1, 3, 5, 1, i, n/32, filled(1000)))
				}
			}
		},
	} {
		small, great := taken(do(1000)), taken(do(2000))
		if great > 3*small+1<<16 {
			t.Error(name, small, great)
		}
	}
}

// THE BOUND: a leader that has sent much keeps nothing of it, nor a follower of what it was sent and refused.
func TestNothingGathers(t *testing.T) {
	o := begun(t, 3, 0, hasLog(repeat(0, 50)...), hasChosen(50))
	o.leads(t, 3, 0)
	w := begun(t, 3, 1)
	held := func() uint64 {
		var m runtime.MemStats
		runtime.GC()
		runtime.ReadMemStats(&m)
		return m.HeapAlloc
	}
	run := func() {
		for i := range 300 {
			o.Step(tells(1, 0, 1, false, 0))
			o.Tick()
			w.Step(hands(0, 1, 1, int64(9+i), 1, 0, 2, filled(api.MaxData)))
			w.Step(sends(0, 1, 1, 60, 1, 0, list(60, repeat(1, 50)...)...))
		}
	}
	run()
	was := held()
	run()
	if now := held(); now > was+1<<20 {
		t.Error("held", was, now)
	}
	runtime.KeepAlive(o)
	runtime.KeepAlive(w)
}
