package replica_test

import (
	"math/rand"
	"slices"
	"strings"
	"testing"

	"trivet/api"
)

// filled is so many bytes that repeat late.
func filled(n int) string {
	b := make([]byte, n)
	for i := range b {
		b[i] = byte(i*7 + i>>8)
	}
	return string(b)
}

// installed fails the test, unless the replica has this checkpoint, and tells it.
func (o *one) installed(t testing.TB, slot, last int64, data string) {
	t.Helper()
	s, has := o.k.State()
	if s.Slot != slot || s.Last != last || string(s.Data) != data || !has {
		t.Error("State", s.Slot, s.Last, len(s.Data), has)
	}
	same(t, o.First(), slot)
	if o.Upto() < slot {
		t.Error("Upto", o.Upto())
	}
	got, b, is := o.Restore()
	if got != slot || string(b) != data || !is {
		t.Error("Restore", got, len(b), is)
	}
	same(t, o.Told(), slot)
}

// Words (it sends): who is behind First is sent the checkpoint, in parts of at most MaxData bytes.
func TestSendParts(t *testing.T) {
	for _, size := range []int{0, 1, api.MaxData - 1, api.MaxData, api.MaxData + 1, 2 * api.MaxData, 2*api.MaxData + 1, 5*api.MaxData - 1} {
		data := filled(size)
		f, k := kept(t, 128, hasVote(3, -1), hasLog(1, 2, 2), hasChosen(3), hasState(2, data))
		o := over(t, f, k, 3, 0)
		o.leads(t, 3, 0)
		var want []api.Msg
		many := max(1, (size+api.MaxData-1)/api.MaxData)
		for i := range many {
			want = append(want, hands(0, 2, 4, 2, 2, i, many, data[i*api.MaxData:min(size, (i+1)*api.MaxData)]))
		}
		says(t, want...)(o.Step(tells(2, 0, 4, false, 0)))
		says(t, append([]api.Msg{sends(0, 1, 4, 4, 4, 3)}, want...)...)(o.Tick()) // again and again, till it has it
		says(t, append([]api.Msg{sends(0, 1, 4, 4, 4, 3)}, want...)...)(o.Tick())
		says(t, want...)(o.Step(tells(2, 0, 4, true, 1)))
		says(t, sends(0, 2, 4, 2, 2, 3, append(list(2, 2), termed(4, api.Entry{}))...))(o.Step(tells(2, 0, 4, true, 2)))
	}
}

// Words (it sends): the greatest checkpoint that there is.
func TestSendGreatState(t *testing.T) {
	data := filled(api.MaxState - 64)
	f, k := kept(t, 600, hasLog(0), hasChosen(1), hasState(1, data))
	o := over(t, f, k, 2, 0)
	o.leads(t, 2, 0)
	l, e := o.Step(tells(1, 0, 1, false, 0))
	must(t, e)
	same(t, len(l), 32)
	f, k = kept(t, 600)
	w := over(t, f, k, 2, 1)
	for i, m := range l {
		got, e := w.Step(m)
		must(t, e)
		if (len(got) > 0) != (i == 31) {
			t.Error(i, got)
		}
	}
	w.installed(t, 1, 0, data)
}

// P10.4, MsPart: a checkpoint that comes whole is installed; the log stays, if it goes on from it.
func TestStepPart(t *testing.T) {
	for _, x := range []struct {
		slot, last int64
		log        string
	}{{6, 4, "6 [4 4 6 6]"}, {6, 3, "6 []"}, {9, 6, "9 [6]"}, {10, 6, "10 []"}, {10, 7, "10 []"}, {11, 6, "11 []"}, {50, 7, "50 []"}, {top, top, "1099511627776 []"}} {
		o := follower(t)
		says(t, tells(1, 0, 7, true, x.slot))(o.Step(hands(0, 1, 7, x.slot, x.last, 0, 1, "state")))
		o.known(t, api.RoleFollow, 0)
		same(t, o.terms(), x.log)
		same(t, o.Upto(), x.slot)
		o.installed(t, x.slot, x.last, "state")
		o.nothing(t)
		w := opened(t, o.f.Clone(), 3, 1)
		w.installed(t, x.slot, x.last, "state")
	}
}

// P10.4, MsPart: of what is chosen already nothing is taken.
func TestStepPartBelow(t *testing.T) {
	for _, slot := range []int64{0, 2, 3, 4, 5} {
		o := follower(t)
		was := o.terms()
		says(t, tells(1, 2, 7, true, slot))(o.Step(hands(2, 1, 7, slot, 9, 0, 1, "state")))
		says(t, tells(1, 2, 7, true, slot))(o.Step(hands(2, 1, 7, slot, 9, 3, 90, "state")))
		says(t, tells(1, 2, 7, true, slot))(o.Step(wrongSlot(hands(2, 1, 7, slot, 9, 0, 1, "state"))))
		o.known(t, api.RoleFollow, 2)
		same(t, o.terms(), was)
		same(t, o.Upto(), 5)
		s, _ := o.k.State()
		same(t, string(s.Data), "three")
	}
}

// wrongSlot has another slot in its part.
func wrongSlot(m api.Msg) api.Msg {
	m.Part.Slot++
	return m
}

// P10.4, MsPart: parts come in whatever order, twice, and without bytes.
func TestStepPartOrders(t *testing.T) {
	data := []string{"ab", "", "c", "defg"}
	for seed := range int64(200) {
		r := rand.New(rand.NewSource(seed))
		o := follower(t)
		order := r.Perm(4)
		for i, index := range order {
			m := hands(0, 1, 7, 20, 7, index, 4, data[index])
			if i == 3 {
				says(t, tells(1, 0, 7, true, 20))(o.Step(m))
				break
			}
			for range 1 + r.Intn(2) {
				says(t)(o.Step(m))
				again := order[r.Intn(i+1)]
				says(t)(o.Step(hands(0, 1, 7, 20, 7, again, 4, data[again])))
			}
			same(t, o.First(), 3)
		}
		o.installed(t, 20, 7, "abcdefg")
		says(t, tells(1, 0, 7, true, 20))(o.Step(hands(0, 1, 7, 20, 7, 0, 4, "ab"))) // one that comes late
	}
}

// P10.4, MsPart: one that comes again takes the other one's place; the Last is that of the one that makes it whole.
func TestStepPartAgain(t *testing.T) {
	o := follower(t)
	says(t)(o.Step(hands(0, 1, 7, 20, 5, 1, 3, "old")))
	says(t)(o.Step(hands(0, 1, 7, 20, 5, 0, 3, "a")))
	says(t)(o.Step(hands(0, 1, 7, 20, 5, 1, 3, "b")))
	says(t, tells(1, 0, 7, true, 20))(o.Step(hands(0, 1, 7, 20, 6, 2, 3, "c")))
	o.installed(t, 20, 6, "abc")
}

// P10.4, MsPart: parts of another slot or another number of parts let go of what was kept; others do not.
func TestStepPartBetween(t *testing.T) {
	for _, x := range []struct {
		name string
		do   func(o *one)
		lost bool
	}{
		{"nothing", func(o *one) {}, false},
		{"another slot", func(o *one) { says(t)(o.Step(hands(0, 1, 7, 21, 6, 0, 2, "x"))) }, true},
		{"a slot below", func(o *one) { says(t)(o.Step(hands(0, 1, 7, 19, 6, 0, 2, "x"))) }, true},
		{"another number", func(o *one) { says(t)(o.Step(hands(0, 1, 7, 20, 6, 0, 3, "x"))) }, true},
		{"a lesser number", func(o *one) { says(t, tells(1, 0, 7, true, 6))(o.Step(hands(0, 1, 7, 6, 4, 0, 1, "x"))) }, true},
		{"one of too many", func(o *one) { says(t)(o.Step(hands(0, 1, 7, 20, 6, 0, 65, "x"))) }, false},
		{"one that is not its own", func(o *one) { says(t)(o.Step(wrongSlot(hands(0, 1, 7, 20, 6, 0, 2, "x")))) }, false},
		{"one of what is chosen", func(o *one) { says(t, tells(1, 0, 7, true, 5))(o.Step(hands(0, 1, 7, 5, 6, 0, 2, "x"))) }, false},
		{"one of an old term", func(o *one) { says(t, tells(1, 0, 7, false, 0))(o.Step(hands(0, 1, 6, 21, 6, 0, 2, "x"))) }, false},
		{"one that may not be", func(o *one) { o.refuses(t, api.ErrMessage)(o.Step(hands(1, 1, 7, 21, 6, 0, 2, "x"))) }, false},
		{"entries", func(o *one) { says(t, tells(1, 0, 7, true, 10))(o.Step(sends(0, 1, 7, 10, 6, 0))) }, false},
		{"entries that are chosen", func(o *one) { says(t, tells(1, 0, 7, true, 10))(o.Step(sends(0, 1, 7, 10, 6, 9))) }, false},
		{"a crash", func(o *one) { *o = *opened(t, o.f, 3, 1) }, true},
		{"ticks", func(o *one) { o.ticks(t, 5) }, false},
	} {
		o := follower(t)
		says(t)(o.Step(hands(0, 1, 7, 20, 6, 0, 2, "a")))
		x.do(o)
		m := hands(0, 1, 7, 20, 6, 1, 2, "b")
		if x.lost {
			says(t)(o.Step(m))
			says(t, tells(1, 0, 7, true, 20))(o.Step(hands(0, 1, 7, 20, 6, 0, 2, "c")))
			o.installed(t, 20, 6, "cb")
			continue
		}
		says(t, tells(1, 0, 7, true, 20))(o.Step(m))
		o.installed(t, 20, 6, "ab")
	}
}

// P10.4, MsPart: parts are kept, whichever leader and term they come from; the same slot's checkpoint is the same.
func TestStepPartOfTwoLeaders(t *testing.T) {
	o := follower(t)
	says(t)(o.Step(hands(0, 1, 7, 20, 6, 0, 3, "a")))
	says(t)(o.Step(hands(2, 1, 9, 20, 6, 2, 3, "c")))
	o.known(t, api.RoleFollow, 2)
	o.leads(t, 3, 1)
	says(t, tells(1, 0, 11, true, 20))(o.Step(hands(0, 1, 11, 20, 6, 1, 3, "b")))
	o.installed(t, 20, 6, "abc")
}

// P10.4, MsPart: of 64 parts they are taken, of one more not.
func TestStepPartMany(t *testing.T) {
	for _, many := range []int{1, 2, 63, 64, 65, 66, api.MaxList} {
		o := follower(t)
		var want strings.Builder
		for i := range min(many, 70) {
			m := hands(2, 1, 7, 20, 6, i, many, string(rune('a'+i%20)))
			want.Write(m.Part.Data)
			if many <= 64 && i == many-1 {
				says(t, tells(1, 2, 7, true, 20))(o.Step(m))
				o.installed(t, 20, 6, want.String())
				break
			}
			says(t)(o.Step(m))
			o.known(t, api.RoleFollow, 2)
		}
		if many > 64 {
			same(t, o.First(), 3)
			o.installed(t, 3, 2, "three")
		}
	}
}

// P10.4, MsPart: where the keeper has no room for the checkpoint, nothing is answered, and the parts are gone.
func TestStepPartWithoutRoom(t *testing.T) {
	f, k := kept(t, 8, hasLog(0, 0))
	o := over(t, f, k, 3, 1)
	says(t)(o.Step(hands(0, 1, 7, 20, 6, 0, 2, filled(api.MaxData))))
	o.refuses(t, api.OK)(o.Step(hands(0, 1, 7, 20, 6, 1, 2, "b")))
	o.refuses(t, api.OK)(o.Step(hands(0, 1, 7, 20, 6, 0, 2, "a")))
	says(t, tells(1, 0, 7, true, 20))(o.Step(hands(0, 1, 7, 20, 6, 1, 2, "b")))
	o.installed(t, 20, 6, "ab")
	// 64 parts of all their bytes are more than any keeper has room for
	f, k = kept(t, 700)
	o = over(t, f, k, 3, 1)
	for i := range 64 {
		says(t)(o.Step(hands(0, 1, 7, 20, 6, i, 64, filled(api.MaxData))))
	}
	same(t, o.First(), 0)
}

// P10.4: one that lags is brought on by a checkpoint and the entries behind it.
func TestLagging(t *testing.T) {
	f, k := kept(t, 128, hasLog(repeat(0, 90)...), hasChosen(90), hasState(20, filled(40000)))
	a, b := over(t, f, k, 2, 0), begun(t, 2, 1, hasLog(0, 0))
	wait := a.leads(t, 2, 0)
	for said := 0; len(wait) > 0; said++ {
		if said == 100 {
			t.Fatal("they go on and on:", wait[0])
		}
		m := wait[0]
		wait = wait[1:]
		to := a
		if m.To == 1 {
			to = b
		}
		l, e := to.Step(m)
		must(t, e)
		wait = append(wait, l...)
	}
	same(t, a.Upto(), 91)
	same(t, b.k.Length(), 91)
	says(t, sends(0, 1, 1, 91, 1, 91))(a.Tick())
	says(t, tells(1, 0, 1, true, 91))(b.Step(sends(0, 1, 1, 91, 1, 91)))
	b.installed(t, 20, 0, filled(40000))
	for slot, x := range list(0, repeat(0, 90)...) {
		if slot >= 20 {
			b.next(t, int64(slot), x.Entry)
		}
	}
	b.next(t, 90, api.Entry{})
	b.nothing(t)
	if !slices.Equal(entriesOf(a), entriesOf(b)) {
		t.Error("the logs are not alike")
	}
}

// entriesOf is a replica's log, entries as texts.
func entriesOf(o *one) []string {
	var l []string
	for _, x := range o.k.All(0) {
		l = append(l, texts(sends(0, 1, 0, 0, 0, 0, x)))
	}
	return l
}
