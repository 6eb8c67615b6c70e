package record_test

import (
	"math"
	"reflect"
	"slices"
	"strings"
	"testing"

	"trivet/api"
	"trivet/record"
)

// counts are numbers, and whether they are counts.
func counts() map[int64]bool {
	return map[int64]bool{0: true, 1: true, api.MaxTime: true, api.MaxTime + 1: false, -1: false, math.MaxInt64: false, math.MinInt64: false}
}

// replicas are numbers, and whether they are a replica's.
func replicas() map[int]bool {
	return map[int]bool{-1: false, 0: true, 4: true, 5: false, math.MaxInt: false, math.MinInt: false}
}

func sure(good bool) api.Errno {
	if good {
		return api.OK
	}
	return api.ErrField
}

// rising are n keys that may be, but for their number.
func rising(n int) []api.Key {
	var l []api.Key
	for i := range n {
		l = append(l, api.Key{Table: int32(i / 3), Row: int64(i % 3)})
	}
	return l
}

func sampleTxn() api.Txn {
	return api.Txn{Session: 1, Request: 3, Code: []byte{9, 8}, Args: []int64{-7}, Reads: rising(2), Writes: rising(3)}
}

func batch(n int) api.Entry {
	e := api.Entry{Kind: api.EnBatch, From: 2, Number: 5}
	for range n {
		e.Txns = append(e.Txns, sampleTxn())
	}
	return e
}

func samplePart() api.Part {
	return api.Part{Slot: 6, Index: 1, Many: 3, Data: []byte("data")}
}

// sampleMsg has all fields of its Kind other than zero, and no others.
func sampleMsg(kind int) api.Msg {
	m := api.Msg{Kind: kind, From: 1, To: 4}
	for _, name := range strings.Fields(named(kind)) {
		reflect.ValueOf(&m).Elem().FieldByName(name).Set(reflect.ValueOf(fullMsg()).FieldByName(name))
	}
	return m
}

// fullMsg has something in every field: it may not be.
func fullMsg() api.Msg {
	return api.Msg{Kind: 1, From: 1, To: 4, Term: 11, Slot: 12, Last: 13, Commit: 14, Yes: true,
		List: []api.Termed{{Term: 15, Entry: batch(1)}, {Term: 16}}, Entry: batch(2), Part: samplePart()}
}

// holdTxn asks all that check a transaction whether it may be, also as what others have in them. What may not be is read, too, and refused.
func holdTxn(t *testing.T, x api.Txn, want api.Errno) {
	t.Helper()
	e := api.Entry{Kind: api.EnBatch, Txns: []api.Txn{sampleTxn(), x}}
	if c := record.CheckTxn(x); c != want {
		t.Error("CheckTxn", x, c)
	}
	if b, p := record.PutTxn(nil, x); p != want || (b == nil) != (want != api.OK) {
		t.Error("PutTxn", x, b, p)
	}
	if y, n, p := record.TakeTxn(form(txnParts(x)...)); p != want || p != api.OK && (n != 0 || !record.SameTxn(y, api.Txn{})) {
		t.Error("TakeTxn", x, y, n, p)
	}
	holdEntry(t, e, want)
}

func holdEntry(t *testing.T, v api.Entry, want api.Errno) {
	t.Helper()
	if e := record.CheckEntry(v); e != want {
		t.Error("CheckEntry", v, e)
	}
	if b, e := record.Entry(v); e != want || (b == nil) != (want != api.OK) {
		t.Error("Entry", v, b, e)
	}
	holdMsg(t, api.Msg{Kind: api.MsForward, Entry: v}, want)
	holdMsg(t, api.Msg{Kind: api.MsAppend, List: []api.Termed{{}, {Entry: v}}}, want)
}

func holdMsg(t *testing.T, m api.Msg, want api.Errno) {
	t.Helper()
	if e := record.CheckMsg(m); e != want {
		t.Error("CheckMsg", m, e)
	}
	if b, e := record.Marshal(m); e != want || (b == nil) != (want != api.OK) {
		t.Error("Marshal", m, b, e)
	}
}

// readMsg asks Unmarshal for the form of a message that may or may not be.
func readMsg(t *testing.T, m api.Msg, want api.Errno) {
	t.Helper()
	n, e := record.Unmarshal(sealed(form(messageParts(m)...)))
	if e != want || e == api.OK && !record.SameMsg(m, n) || e != api.OK && !record.SameMsg(n, api.Msg{}) {
		t.Error("Unmarshal", m, n, e)
	}
}

// P4.1: keys.
func TestKeys(t *testing.T) {
	k := func(table int32, row int64) api.Key { return api.Key{Table: table, Row: row} }
	for _, x := range []struct {
		l    []api.Key
		good bool
	}{
		{nil, true}, {[]api.Key{}, true}, {[]api.Key{k(0, 0)}, true},
		{[]api.Key{k(math.MinInt32, math.MinInt64)}, true}, {[]api.Key{k(math.MaxInt32, math.MaxInt64)}, true},
		{[]api.Key{k(1, 2), k(1, 2)}, false}, {[]api.Key{k(1, 2), k(1, 3)}, true}, {[]api.Key{k(1, 3), k(1, 2)}, false},
		{[]api.Key{k(1, 9), k(2, 0)}, true}, {[]api.Key{k(2, 0), k(1, 9)}, false}, {[]api.Key{k(-1, 0), k(0, 0)}, true}, {[]api.Key{k(0, 0), k(-1, 0)}, false},
		{[]api.Key{k(0, -1), k(0, 0)}, true}, {[]api.Key{k(0, 0), k(0, -1)}, false},
		{[]api.Key{k(math.MinInt32, math.MaxInt64), k(math.MaxInt32, math.MinInt64)}, true}, {[]api.Key{k(0, math.MinInt64), k(0, math.MaxInt64)}, true}, {[]api.Key{k(0, math.MaxInt64), k(0, math.MinInt64)}, false},
		{[]api.Key{k(1, 1), k(1, 2), k(1, 1)}, false}, {[]api.Key{k(2, 1), k(1, 1), k(3, 1)}, false}, {[]api.Key{k(1, 1), k(3, 1), k(3, 1)}, false},
		{rising(api.MaxKeys), true}, {rising(api.MaxKeys + 1), false}, {rising(api.MaxList), false},
	} {
		if e := record.CheckKeys(x.l); e != sure(x.good) {
			t.Error("CheckKeys", x.l, e)
		}
		for _, side := range []string{"Reads", "Writes"} {
			txn := sampleTxn()
			reflect.ValueOf(&txn).Elem().FieldByName(side).Set(reflect.ValueOf(x.l))
			holdTxn(t, txn, sure(x.good))
		}
	}
	l := rising(api.MaxKeys)
	l[15] = l[14]
	if e := record.CheckKeys(l); e != api.ErrField {
		t.Error("the last two alike", e)
	}
}

// P4.1: sessions and requests are counts above 0.
func TestTxnCounts(t *testing.T) {
	for n, good := range counts() {
		x := sampleTxn()
		x.Session = n
		holdTxn(t, x, sure(good && n != 0))
		x = sampleTxn()
		x.Request = n
		holdTxn(t, x, sure(good && n != 0))
	}
	holdTxn(t, api.Txn{}, api.ErrField)
	holdTxn(t, api.Txn{Session: 1}, api.ErrField)
	holdTxn(t, api.Txn{Request: 1}, api.ErrField)
}

// P4.1: how long Code and Args may be, and that any int is an argument.
func TestTxnLists(t *testing.T) {
	for n, good := range map[int]bool{0: true, api.MaxCode: true, api.MaxCode + 1: false, api.MaxList + 1: false} {
		x := sampleTxn()
		x.Code = make([]byte, n)
		holdTxn(t, x, sure(good))
	}
	for n, good := range map[int]bool{0: true, api.MaxArgs: true, api.MaxArgs + 1: false, api.MaxList: false} {
		x := sampleTxn()
		x.Args = make([]int64, n)
		holdTxn(t, x, sure(good))
	}
	x := sampleTxn()
	x.Args = []int64{0, math.MaxInt64, math.MinInt64, -1}
	holdTxn(t, x, api.OK)
	holdTxn(t, api.Txn{Session: 1, Request: 1}, api.OK)
	holdTxn(t, api.Txn{Session: 1, Request: 1, Code: []byte{}, Args: []int64{}, Reads: []api.Key{}, Writes: []api.Key{}}, api.OK)
}

// P4.1: the two kinds of entries, and what each may have.
func TestEntryFields(t *testing.T) {
	holdEntry(t, api.Entry{}, api.OK)
	holdEntry(t, api.Entry{Txns: []api.Txn{}}, api.OK)
	for _, e := range []api.Entry{{From: 1}, {Number: 1}, {Txns: []api.Txn{{}}}, {Txns: []api.Txn{sampleTxn()}}} {
		holdEntry(t, e, api.ErrField)
	}
	for _, kind := range []int{-1, 2, math.MaxInt, math.MinInt} {
		e := batch(1)
		e.Kind = kind
		holdEntry(t, e, api.ErrField)
		holdEntry(t, api.Entry{Kind: kind}, api.ErrField)
	}
	for n, good := range replicas() {
		e := batch(1)
		e.From = n
		holdEntry(t, e, sure(good))
		readMsg(t, api.Msg{Kind: api.MsForward, Entry: e}, sure(good))
	}
	for n, good := range counts() {
		e := batch(1)
		e.Number = n
		holdEntry(t, e, sure(good))
		readMsg(t, api.Msg{Kind: api.MsForward, Entry: e}, sure(good))
	}
	for n, good := range map[int]bool{0: false, 1: true, api.MaxTxns: true, api.MaxTxns + 1: false, api.MaxList: false} {
		holdEntry(t, batch(n), sure(good))
		readMsg(t, api.Msg{Kind: api.MsForward, Entry: batch(n)}, sure(good))
	}
	e := batch(1)
	e.Txns = []api.Txn{}
	holdEntry(t, e, api.ErrField)
	e = batch(api.MaxTxns)
	e.Txns[api.MaxTxns-1].Request = 0
	holdEntry(t, e, api.ErrField)
}

// P4.1: every kind of messages, one below and one above; who sends it, and to whom.
func TestMsgKinds(t *testing.T) {
	for kind := api.MsVote; kind <= api.MsForward; kind++ {
		holdMsg(t, sampleMsg(kind), api.OK)
		readMsg(t, sampleMsg(kind), api.OK)
		for n, good := range replicas() {
			m := sampleMsg(kind)
			m.From = n
			holdMsg(t, m, sure(good))
			readMsg(t, m, sure(good))
			m = sampleMsg(kind)
			m.To = n
			holdMsg(t, m, sure(good))
			readMsg(t, m, sure(good))
		}
		m := sampleMsg(kind)
		m.To = m.From // the chapter does not forbid it
		holdMsg(t, m, api.OK)
	}
	for _, kind := range []int{-1, 0, 7, math.MaxInt, math.MinInt} {
		holdMsg(t, api.Msg{Kind: kind}, api.ErrField)
	}
	holdMsg(t, api.Msg{}, api.ErrField)
}

// P4.1: a message has the fields of its Kind and no others.
func TestMsgFields(t *testing.T) {
	others := []api.Msg{fullMsg(), {Entry: api.Entry{Kind: 1}}, {Entry: api.Entry{From: 1}}, {Entry: api.Entry{Number: 1}}, {Entry: api.Entry{Txns: []api.Txn{{}}}},
		{Part: api.Part{Slot: 1}}, {Part: api.Part{Index: 1}}, {Part: api.Part{Many: 1}}, {Part: api.Part{Data: []byte{0}}},
		{List: []api.Termed{{}}}, {Term: -1}, {Slot: -1}, {Last: -1}, {Commit: -1}}
	for kind := api.MsVote; kind <= api.MsForward; kind++ {
		for _, name := range []string{"Term", "Slot", "Last", "Commit", "Yes", "List", "Entry", "Part"} {
			if slices.Contains(strings.Fields(named(kind)), name) {
				continue
			}
			for _, o := range others {
				m := sampleMsg(kind)
				from := reflect.ValueOf(o).FieldByName(name)
				reflect.ValueOf(&m).Elem().FieldByName(name).Set(from)
				holdMsg(t, m, sure(nothing(from)))
			}
		}
		m := sampleMsg(kind)
		if kind != api.MsAppend {
			m.List = []api.Termed{}
		}
		if kind != api.MsForward {
			m.Entry.Txns = []api.Txn{}
		}
		if kind != api.MsPart {
			m.Part.Data = []byte{}
		}
		holdMsg(t, m, api.OK)
	}
}

// P4.1: Term, Slot, Last and Commit are counts wherever they are named, and so are terms in a list.
func TestMsgCounts(t *testing.T) {
	for n, good := range counts() {
		for kind := api.MsVote; kind <= api.MsForward; kind++ {
			for _, name := range strings.Fields(named(kind)) {
				m := sampleMsg(kind)
				if v := reflect.ValueOf(&m).Elem().FieldByName(name); v.Kind() == reflect.Int64 {
					v.SetInt(n)
					holdMsg(t, m, sure(good))
					readMsg(t, m, sure(good))
				}
			}
		}
		m := sampleMsg(api.MsAppend)
		m.List[1].Term = n
		holdMsg(t, m, sure(good))
		readMsg(t, m, sure(good))
		m = sampleMsg(api.MsPart)
		m.Part.Slot = n
		holdMsg(t, m, sure(good))
		readMsg(t, m, sure(good))
	}
}

// P4.1: parts of checkpoints.
func TestParts(t *testing.T) {
	try := func(index, many, data int, good bool) {
		t.Helper()
		m := sampleMsg(api.MsPart)
		m.Part = api.Part{Slot: 1, Index: index, Many: many, Data: make([]byte, data)}
		holdMsg(t, m, sure(good))
		readMsg(t, m, sure(good))
	}
	try(0, 1, 0, true)
	try(1, 1, 0, false)
	try(-1, 1, 0, false)
	try(0, 0, 0, false)
	try(-1, 0, 0, false)
	try(-2, -1, 0, false)
	try(0, -1, 0, false)
	try(4095, api.MaxList, 0, true)
	try(api.MaxList, api.MaxList, 0, false)
	try(0, api.MaxList, 0, true)
	try(0, api.MaxList+1, 0, false)
	try(api.MaxList, api.MaxList+1, 0, false)
	try(math.MaxInt, math.MaxInt, 0, false)
	try(math.MinInt, math.MaxInt, 0, false)
	try(0, math.MinInt, 0, false)
	try(0, 1, api.MaxData, true)
	try(0, 1, api.MaxData+1, false)
	m := sampleMsg(api.MsPart)
	m.Part = api.Part{}
	holdMsg(t, m, api.ErrField)
}

// P4.1: lists of entries.
func TestLists(t *testing.T) {
	for n, good := range map[int]bool{0: true, 1: true, api.MaxList: true, api.MaxList + 1: false} {
		m := sampleMsg(api.MsAppend)
		m.List = make([]api.Termed, n)
		holdMsg(t, m, sure(good))
		readMsg(t, m, sure(good))
		if n > 0 {
			m.List[n-1].Entry.Number = 1
			holdMsg(t, m, api.ErrField)
		}
	}
}
