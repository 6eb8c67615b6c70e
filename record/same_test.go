package record_test

import (
	"bytes"
	"reflect"
	"slices"
	"testing"

	"trivet/api"
	"trivet/record"
)

// changes goes through all values that are v but for one number, flag, or list's end, and calls do while v (which is to be settable) is each of them.
func changes(v reflect.Value, do func()) {
	switch v.Kind() {
	case reflect.Int, reflect.Int32, reflect.Int64:
		for _, d := range []int64{1, -1} {
			v.SetInt(v.Int() + d)
			do()
			v.SetInt(v.Int() - d)
		}
	case reflect.Uint8:
		v.SetUint(v.Uint() ^ 1)
		do()
		v.SetUint(v.Uint() ^ 1)
	case reflect.Bool:
		v.SetBool(!v.Bool())
		do()
		v.SetBool(!v.Bool())
	case reflect.Struct:
		for i := range v.NumField() {
			changes(v.Field(i), do)
		}
	case reflect.Slice:
		whole := reflect.New(v.Type()).Elem()
		whole.Set(v)
		if v.Len() > 0 {
			v.Set(whole.Slice(0, v.Len()-1))
			do()
			v.Set(whole.Slice(1, whole.Len()))
			do()
		}
		v.Set(reflect.Append(whole.Slice3(0, whole.Len(), whole.Len()), reflect.Zero(v.Type().Elem())))
		do()
		v.Set(whole)
		for i := range v.Len() {
			changes(v.Index(i), do)
		}
	}
}

// P4.1: two that differ anywhere are not the same, and two that do not are, whichever of them is named first.
func TestSame(t *testing.T) {
	x, y := sampleTxn(), sampleTxn()
	if !record.SameTxn(x, y) {
		t.Error("SameTxn")
	}
	changes(reflect.ValueOf(&y).Elem(), func() {
		if record.SameTxn(x, y) || record.SameTxn(y, x) {
			t.Error("SameTxn", y)
		}
	})
	d, e := batch(2), batch(2)
	if !record.SameEntry(d, e) || !record.SameEntry(api.Entry{}, api.Entry{}) {
		t.Error("SameEntry")
	}
	changes(reflect.ValueOf(&e).Elem(), func() {
		if record.SameEntry(d, e) || record.SameEntry(e, d) {
			t.Error("SameEntry", e)
		}
	})
	m, n := fullMsg(), fullMsg() // all fields, for they are held against each other whatever the Kind
	if !record.SameMsg(m, n) || !record.SameMsg(api.Msg{}, api.Msg{}) {
		t.Error("SameMsg")
	}
	count := 0
	changes(reflect.ValueOf(&n).Elem(), func() {
		count++
		if record.SameMsg(m, n) || record.SameMsg(n, m) {
			t.Error("SameMsg", n)
		}
	})
	if !record.SameMsg(m, n) || count < 100 {
		t.Error("the test has left", n, count)
	}
}

// R4: nil and empty lists are the same, in what is held against each other and in what is written.
func TestNilAndEmpty(t *testing.T) {
	x, y := api.Txn{Session: 1, Request: 1}, api.Txn{Session: 1, Request: 1, Code: []byte{}, Args: []int64{}, Reads: []api.Key{}, Writes: []api.Key{}}
	d, e := api.Entry{}, api.Entry{Txns: []api.Txn{}}
	m, n := api.Msg{Kind: api.MsAppend}, api.Msg{Kind: api.MsAppend, List: []api.Termed{}, Entry: api.Entry{Txns: []api.Txn{}}, Part: api.Part{Data: []byte{}}}
	if !record.SameTxn(x, y) || !record.SameTxn(y, x) || !record.SameEntry(d, e) || !record.SameEntry(e, d) || !record.SameMsg(m, n) || !record.SameMsg(n, m) {
		t.Error("Same")
	}
	xb, e1 := record.PutTxn(nil, x)
	yb, e2 := record.PutTxn([]byte{}, y)
	db, e3 := record.Entry(d)
	eb, e4 := record.Entry(e)
	mb, e5 := record.Marshal(m)
	nb, e6 := record.Marshal(n)
	if !bytes.Equal(xb, yb) || !bytes.Equal(db, eb) || !bytes.Equal(mb, nb) || slices.Max([]api.Errno{e1, e2, e3, e4, e5, e6}) != api.OK {
		t.Error(xb, yb, db, eb, mb, nb)
	}
	if !record.SameTxn(record.CloneTxn(x), record.CloneTxn(y)) || !record.SameEntry(record.CloneEntry(d), record.CloneEntry(e)) || !record.SameMsg(record.CloneMsg(m), record.CloneMsg(n)) {
		t.Error("Clone")
	}
	if record.CheckKeys([]api.Key{}) != record.CheckKeys(nil) {
		t.Error("CheckKeys")
	}
}

// scribble changes all that can be reached of values' lists, up to their capacity.
func scribble(l ...any) {
	for _, x := range l {
		lists(reflect.ValueOf(x), func(v reflect.Value) {
			v = v.Slice(0, v.Cap())
			for i := range v.Len() {
				fill(v.Index(i))
			}
		})
	}
}

func fill(v reflect.Value) {
	switch v.Kind() {
	case reflect.Struct:
		for i := range v.NumField() {
			fill(v.Field(i))
		}
	case reflect.Int, reflect.Int32, reflect.Int64:
		v.SetInt(v.Int() ^ 85)
	case reflect.Uint8:
		v.SetUint(v.Uint() ^ 85)
	}
}

// P4.1: a clone is the same, and nobody else's, in both directions.
func TestClones(t *testing.T) {
	d := draws(6)
	for range 300 {
		x, e, m := d.txn(), d.entry(), d.message()
		if d.Intn(4) == 0 {
			m = fullMsg() // a message need not be one that may be
		}
		cx, ce, cm := record.CloneTxn(x), record.CloneEntry(e), record.CloneMsg(m)
		was := text(x, e, m)
		if !record.SameTxn(x, cx) || !record.SameEntry(e, ce) || !record.SameMsg(m, cm) || text(cx, ce, cm) != was {
			t.Fatal(x, cx, e, ce, m, cm)
		}
		scribble(cx, ce, cm)
		if text(x, e, m) != was {
			t.Fatal("a clone is seen in what was cloned", was)
		}
		cx, ce, cm = record.CloneTxn(x), record.CloneEntry(e), record.CloneMsg(m)
		scribble(x, e, m)
		if text(cx, ce, cm) != was {
			t.Fatal("what was cloned is seen in the clone", was)
		}
		apart(t, cx)
		apart(t, ce)
		apart(t, cm)
	}
}

// apart tells a fault, if two lists within one answer share memory.
func apart(t *testing.T, x any) {
	t.Helper()
	was := map[uintptr]int{}
	lists(reflect.ValueOf(x), func(v reflect.Value) {
		if v.Cap() > 0 {
			was[v.Pointer()]++
			if was[v.Pointer()] > 1 {
				t.Error("two lists share memory")
			}
		}
	})
}

// spare is b with room behind it that holds 77s, in which an answer that appends to b would be seen.
func spare(b []byte) []byte {
	return append(slices.Clone(b), bytes.Repeat([]byte{77}, 512)...)[:len(b)]
}

func untouched(b, was []byte) bool {
	return bytes.Equal(b, was) && bytes.Equal(b[len(b):cap(b)][:512], bytes.Repeat([]byte{77}, 512))
}

// R3: what is handed in is not written to, not even behind its end.
func TestArgumentsStay(t *testing.T) {
	x, e, was := sampleTxn(), batch(2), text(sampleTxn(), batch(2), fullMsg())
	m := fullMsg()
	x.Code = spare(x.Code)
	e.Txns[1].Code = spare(e.Txns[1].Code)
	m.Part.Data = spare(m.Part.Data)
	record.CheckKeys(x.Reads)
	record.CheckTxn(x)
	record.CheckEntry(e)
	record.CheckMsg(m)
	record.PutTxn(nil, x)
	record.Entry(e)
	record.SameTxn(x, x)
	record.SameEntry(e, e)
	record.SameMsg(m, m)
	record.CloneTxn(x)
	record.CloneEntry(e)
	record.CloneMsg(m)
	for kind := range 8 {
		n := m
		n.Kind = kind
		record.CheckMsg(n)
		record.Marshal(n)
		if kind > 0 && kind < 7 {
			n = sampleMsg(kind)
			record.CheckMsg(n)
			record.Marshal(n)
			if text(n) != text(sampleMsg(kind)) {
				t.Error(n)
			}
		}
	}
	if text(x, e, m) != was || !untouched(x.Code, sampleTxn().Code) || !untouched(e.Txns[1].Code, sampleTxn().Code) || !untouched(m.Part.Data, samplePart().Data) {
		t.Error(x, e, m)
	}
	for _, was := range [][]byte{nil, []byte("ahead"), form(txnParts(x)...), form(entryParts(e)...), sealed(form(messageParts(sampleMsg(3))...)), sealed(form(messageParts(sampleMsg(5))...))} {
		b := spare(was)
		record.PutTxn(b, x)
		record.TakeTxn(b)
		record.TakeEntry(b)
		record.Unmarshal(b)
		if !untouched(b, was) {
			t.Error(was, b)
		}
	}
}

// R3: an answer shares no memory with an argument, nor two lists of it with each other.
func TestAnswersAreNobodyElses(t *testing.T) {
	x, e, m, p := sampleTxn(), batch(2), sampleMsg(api.MsAppend), sampleMsg(api.MsPart)
	ahead := spare([]byte("ahead"))
	put, _ := record.PutTxn(ahead, x)
	entry, _ := record.Entry(e)
	one, _ := record.Marshal(m)
	two, _ := record.Marshal(p)
	was := text(put, entry, one, two)
	scribble(ahead, x, e, m, p)
	if text(put, entry, one, two) != was {
		t.Error("an argument is seen in an answer")
	}

	put = put[len("ahead"):]
	tx, _, e1 := record.TakeTxn(put)
	te, e2 := record.TakeEntry(entry)
	tm, e3 := record.Unmarshal(one)
	tp, e4 := record.Unmarshal(two)
	if slices.Max([]api.Errno{e1, e2, e3, e4}) != api.OK {
		t.Fatal(e1, e2, e3, e4)
	}
	apart(t, tx)
	apart(t, te)
	apart(t, tm)
	was = text(tx, te, tm, tp)
	scribble(put, entry, one, two)
	if text(tx, te, tm, tp) != was {
		t.Error("bytes are seen in what was taken of them")
	}
	was = text(put, entry, one, two)
	scribble(tx, te, tm, tp)
	if text(put, entry, one, two) != was {
		t.Error("what was taken is seen in its bytes")
	}
}
