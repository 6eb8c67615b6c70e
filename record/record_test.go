package record_test

import (
	"bytes"
	"fmt"
	"math"
	"reflect"
	"runtime"
	"slices"
	"testing"

	"trivet/api"
	"trivet/record"
	"trivet/shape"
)

func text(l ...any) string { return fmt.Sprint(l...) }

// The chapter's examples.
func TestExamples(t *testing.T) {
	if b, e := record.Entry(api.Entry{}); e != api.OK || !bytes.Equal(b, []byte{0}) {
		t.Error(b, e)
	}
	one := api.Entry{Kind: api.EnBatch, From: 2, Number: 5, Txns: []api.Txn{{Session: 1, Request: 3}}}
	b, e := record.Entry(one)
	if e != api.OK || !bytes.Equal(b, []byte{2, 1, 2, 2, 2, 5, 2, 1, 2, 1, 2, 3, 0, 0, 0, 0}) {
		t.Error(b, e)
	}
	if x, e := record.TakeEntry(b); e != api.OK || !record.SameEntry(x, one) {
		t.Error(x, e)
	}
	for _, x := range []struct {
		b []byte
		e api.Errno
	}{{[]byte{2}, api.ErrEnds}, {[]byte{0, 0}, api.ErrMore}, {[]byte{2, 2}, api.ErrField}, {nil, api.ErrEnds}, {[]byte{}, api.ErrEnds}, {[]byte{0}, api.OK}} {
		if v, e := record.TakeEntry(x.b); e != x.e || !record.SameEntry(v, api.Entry{}) {
			t.Error(x.b, v, e)
		}
	}
	k := api.Key{Table: 1, Row: 2}
	if record.CheckTxn(api.Txn{Session: 1}) != api.ErrField || record.CheckEntry(api.Entry{Number: 1}) != api.ErrField || record.CheckKeys([]api.Key{k, k}) != api.ErrField {
		t.Error("the second example")
	}
}

// P4.2: the forms, byte by byte.
func TestForms(t *testing.T) {
	x := api.Txn{Session: 1, Request: 300, Code: []byte{9, 8}, Args: []int64{-5, 0}, Reads: []api.Key{{Table: -1, Row: 7}, {Table: 2, Row: -300}}, Writes: []api.Key{{Table: 3}}}
	xb := []byte{2, 1, 4, 44, 1, 2, 2, 9, 8, 2, 2, 3, 5, 0, 2, 2, 3, 1, 2, 7, 2, 2, 5, 44, 1, 2, 1, 2, 3, 0}
	if b, e := record.PutTxn([]byte{77}, x); e != api.OK || !bytes.Equal(b, append([]byte{77}, xb...)) {
		t.Error(b, e)
	}
	eb := append(append([]byte{2, 1, 2, 3, 0, 2, 2}, xb...), xb...)
	v := api.Entry{Kind: api.EnBatch, From: 3, Txns: []api.Txn{x, x}}
	if b, e := record.Entry(v); e != api.OK || !bytes.Equal(b, eb) {
		t.Error(b, e)
	}
	for _, x := range []struct {
		m api.Msg
		b []byte
	}{
		{api.Msg{Kind: api.MsVote, From: 1, To: 2, Term: 3, Slot: 4, Last: 5}, []byte{2, 1, 2, 1, 2, 2, 2, 3, 2, 4, 2, 5}},
		{api.Msg{Kind: api.MsVoted, From: 1, To: 2, Term: 3, Yes: true}, []byte{2, 2, 2, 1, 2, 2, 2, 3, 2, 1}},
		{api.Msg{Kind: api.MsVoted}, []byte{2, 2, 0, 0, 0, 0}},
		{api.Msg{Kind: api.MsAppend, From: 1, To: 2, Term: 3, Slot: 4, Last: 5, Commit: 6, List: []api.Termed{{Term: 7, Entry: v}, {Term: 8}}}, append(append([]byte{2, 3, 2, 1, 2, 2, 2, 3, 2, 4, 2, 5, 2, 6, 2, 2, 2, 7}, eb...), 2, 8, 0)},
		{api.Msg{Kind: api.MsAppend}, []byte{2, 3, 0, 0, 0, 0, 0, 0, 0}},
		{api.Msg{Kind: api.MsAppended, From: 1, To: 2, Term: 3, Yes: true, Slot: 4}, []byte{2, 4, 2, 1, 2, 2, 2, 3, 2, 1, 2, 4}},
		{api.Msg{Kind: api.MsPart, From: 1, To: 2, Term: 3, Slot: 4, Last: 5, Part: api.Part{Slot: 6, Index: 7, Many: 8, Data: []byte{9}}}, []byte{2, 5, 2, 1, 2, 2, 2, 3, 2, 4, 2, 5, 2, 6, 2, 7, 2, 8, 2, 1, 9}},
		{api.Msg{Kind: api.MsForward, From: 1, To: 2, Entry: v}, append([]byte{2, 6, 2, 1, 2, 2}, eb...)},
		{api.Msg{Kind: api.MsForward, To: 4}, []byte{2, 6, 0, 2, 4, 0}},
	} {
		b, e := record.Marshal(x.m)
		if e != api.OK || !bytes.Equal(b, sealed(x.b)) {
			t.Error(x.m, b, e)
		}
		if m, e := record.Unmarshal(b); e != api.OK || !record.SameMsg(m, x.m) {
			t.Error(x.m, m, e)
		}
	}
}

// P4.2: PutTxn's room, and that what may not be is told ahead of what has no room.
func TestPutTxnRoom(t *testing.T) {
	x := sampleTxn()
	long := len(form(txnParts(x)...))
	ahead := bytes.Repeat([]byte{7}, api.MaxBytes+1)
	if b, e := record.PutTxn(ahead[:api.MaxBytes-long], x); e != api.OK || len(b) != api.MaxBytes || !bytes.Equal(b[len(b)-long:], form(txnParts(x)...)) {
		t.Error(len(b), e)
	}
	for _, n := range []int{api.MaxBytes - long + 1, api.MaxBytes, api.MaxBytes + 1} {
		if b, e := record.PutTxn(ahead[:n], x); e != api.ErrLong || b != nil {
			t.Error(n, len(b), e)
		}
		if b, e := record.PutTxn(ahead[:n], api.Txn{Session: 1}); e != api.ErrField || b != nil {
			t.Error(n, len(b), e)
		}
	}
	if y, n, e := record.TakeTxn(append(form(txnParts(x)...), ahead...)); e != api.OK || n != long || !record.SameTxn(x, y) { // what it reads may be long
		t.Error(y, n, e)
	}
}

// greatest is an entry with all at its limits.
func greatest() api.Entry {
	x := api.Txn{Session: api.MaxTime, Request: api.MaxTime, Code: bytes.Repeat([]byte{255}, api.MaxCode)}
	for range api.MaxArgs {
		x.Args = append(x.Args, math.MinInt64)
	}
	for i := range api.MaxKeys {
		x.Reads = append(x.Reads, api.Key{Table: math.MinInt32, Row: math.MinInt64 + int64(i)})
	}
	x.Writes = x.Reads
	e := api.Entry{Kind: api.EnBatch, From: 4, Number: api.MaxTime}
	for range api.MaxTxns {
		e.Txns = append(e.Txns, x)
	}
	return e
}

// fitted is a message whose form has just so many bytes.
func fitted(t *testing.T, bytes int) api.Msg {
	m := api.Msg{Kind: api.MsAppend}
	great := len(form(0, entryParts(greatest())))
	for range bytes/great - 1 {
		m.List = append(m.List, api.Termed{Entry: greatest()})
	}
	size := len(form(messageParts(m)...))
	end := api.Termed{Entry: batch(1)}
	for size+2*api.MaxCode < bytes {
		end.Entry.Txns[0].Code = make([]byte, api.MaxCode)
		m.List = append(m.List, end)
		size += len(form(0, entryParts(end.Entry)))
	}
	for i := range 4 * (api.MaxCode + 1) {
		e := batch(2)
		e.Number = int64(i % 2) // a byte less or more, where the length of Code takes a byte more
		e.Txns[0].Code = make([]byte, i/4)
		e.Txns[1].Code = make([]byte, i/2%2*api.MaxCode)
		if size+len(form(0, entryParts(e))) == bytes {
			m.List = append(m.List, api.Termed{Entry: e})
			return m
		}
	}
	t.Fatal("no message of", bytes)
	return m
}

// P4.2: a message's form may have MaxBytes bytes, and not one more; what may not be is told ahead of that.
func TestMarshalRoom(t *testing.T) {
	m := fitted(t, api.MaxBytes)
	b, e := record.Marshal(m)
	if e != api.OK || !bytes.Equal(b, sealed(form(messageParts(m)...))) || len(b) != 4+api.MaxBytes+8 {
		t.Fatal(len(b), e)
	}
	if n, e := record.Unmarshal(b); e != api.OK || !record.SameMsg(m, n) {
		t.Error(e)
	}
	m = fitted(t, api.MaxBytes+1)
	if len(form(messageParts(m)...)) != api.MaxBytes+1 {
		t.Fatal("of another size")
	}
	if b, e := record.Marshal(m); e != api.ErrLong || b != nil || record.CheckMsg(m) != api.OK {
		t.Error(len(b), e)
	}
	m.Commit = -1
	if b, e := record.Marshal(m); e != api.ErrField || b != nil {
		t.Error(len(b), e)
	}
	m = api.Msg{Kind: api.MsAppend, List: make([]api.Termed, api.MaxList)}
	for i := range m.List {
		m.List[i].Entry = greatest()
	}
	if b, e := record.Marshal(m); e != api.ErrLong || b != nil || record.CheckMsg(m) != api.OK {
		t.Error(len(b), e)
	}
	m.List[api.MaxList-1].Entry.Kind = api.EnNone
	if b, e := record.Marshal(m); e != api.ErrField || b != nil {
		t.Error(len(b), e)
	}
}

// P4.2: the greatest entry has a form, and it is read again.
func TestGreatestEntry(t *testing.T) {
	e := greatest()
	b, no := record.Entry(e)
	if no != api.OK || !bytes.Equal(b, form(entryParts(e)...)) {
		t.Fatal(len(b), no)
	}
	if f, no := record.TakeEntry(b); no != api.OK || !record.SameEntry(e, f) {
		t.Error(no)
	}
}

// bad is a number that shape takes from no bytes.
func bad(b []byte) []byte { return append(b, 1) }

func cut(b []byte) []byte { return b[:len(b)-1] }

func numbers(n int) []any {
	l := make([]any, n)
	for i := range l {
		l[i] = i
	}
	return l
}

// P4.3: each error of TakeTxn, which of two is told, and zero values beside it.
func TestTakeTxnErrors(t *testing.T) {
	for _, x := range []struct {
		what string
		b    []byte
		e    api.Errno
	}{
		{"nothing", nil, api.ErrEnds},
		{"a number that is none", bad(nil), api.ErrForm},
		{"a number that is none, behind one", bad(form(1)), api.ErrForm},
		{"code below 0", form(1, 1, -1), api.ErrForm},
		{"code that ends", form(1, 1, 3), api.ErrEnds},
		{"code that ends, above MaxList", form(1, 1, api.MaxList+1), api.ErrEnds},
		{"code above MaxList", form(1, 1, make([]byte, api.MaxList+1), 0, 0, 0), api.ErrField},
		{"code above MaxList, and an end", form(1, 1, make([]byte, api.MaxList+1), 0, 0), api.ErrEnds},
		{"arguments below 0", form(1, 1, 0, -1), api.ErrField},
		{"arguments far below 0", bad(form(1, 1, 0, math.MinInt64)), api.ErrField},
		{"arguments above MaxList", form(1, 1, 0, api.MaxList+1), api.ErrField},
		{"arguments far above MaxList", form(1, 1, 0, math.MaxInt64), api.ErrField},
		{"arguments of 2^32 and one", form(1, 1, 0, 1<<32+1, 7, 0, 0), api.ErrField},
		{"arguments above MaxList, and no number", bad(form(1, 1, 0, api.MaxList+1)), api.ErrField},
		{"no number, and arguments above MaxList", form(1, 1, 3, api.MaxList+1), api.ErrEnds},
		{"as many arguments as MaxList, which end", form(1, 1, 0, api.MaxList), api.ErrEnds},
		{"as many arguments as MaxList, and no number", bad(form(1, 1, 0, api.MaxList)), api.ErrForm},
		{"as many arguments as MaxList", form(1, 1, 0, api.MaxList, numbers(api.MaxList), 0, 0), api.ErrField},
		{"as many arguments as MaxList, and an end", form(1, 1, 0, api.MaxList, numbers(api.MaxList), 0), api.ErrEnds},
		{"reads below 0", form(1, 1, 0, 0, -1), api.ErrField},
		{"reads above MaxList", bad(form(1, 1, 0, 0, api.MaxList+1)), api.ErrField},
		{"as many reads as MaxList", form(1, 1, 0, 0, api.MaxList), api.ErrEnds},
		{"writes below 0", form(1, 1, 0, 0, 0, -1), api.ErrField},
		{"writes above MaxList", bad(form(1, 1, 0, 0, 0, api.MaxList+1)), api.ErrField},
		{"writes that end", form(1, 1, 0, 0, 0, 1, 5), api.ErrEnds},
		{"session 0", form(0, 1, 0, 0, 0, 0), api.ErrField},
		{"session 0, and an end", form(0, 1, 0, 0, 0), api.ErrEnds},
		{"session 0, and no number", bad(form(0, 1, 0, 0, 0)), api.ErrForm},
		{"request 0", form(1, 0, 0, 0, 0, 0), api.ErrField},
		{"request above MaxTime", form(1, api.MaxTime+1, 0, 0, 0, 0), api.ErrField},
		{"keys alike", form(1, 1, 0, 0, 2, 1, 2, 1, 2, 0), api.ErrField},
		{"keys out of order", form(1, 1, 0, 0, 0, 2, 1, 2, 1, 1), api.ErrField},
		{"a table of no int32", form(1, 1, 0, 0, 1, math.MaxInt32+1, 0, 0), api.ErrField},
		{"a table of no int32, below 0", form(1, 1, 0, 0, 1, math.MinInt32-1, 0, 0), api.ErrField},
		{"a table of no int32, whose lowest bits are one", form(1, 1, 0, 0, 0, 1, 1<<32+1, 0), api.ErrField},
		{"a table of no int32, and one that is, behind it", form(1, 1, 0, 0, 1, 1<<32, 0, 1, 5, 5), api.ErrField},
		{"a table of no int32, and an end", form(1, 1, 0, 0, 1, math.MaxInt32+1, 0), api.ErrEnds},
		{"a table of no int32, and no number", bad(form(1, 1, 0, 0, 1, math.MaxInt32+1)), api.ErrForm},
		{"a row of no int64", append(form(1, 1, 0, 0, 1, 1), 16, 0, 0, 0, 0, 0, 0, 0, 128), api.ErrForm},
	} {
		if y, n, e := record.TakeTxn(x.b); e != x.e || n != 0 || !record.SameTxn(y, api.Txn{}) {
			t.Error(x.what, y, n, e)
		}
		if x.e == api.ErrField { // what is behind it is not TakeTxn's
			if _, _, e := record.TakeTxn(append(slices.Clone(x.b), 2, 0)); e != x.e {
				t.Error(x.what, "and more", e)
			}
		}
	}
	for _, table := range []int{math.MinInt32, math.MaxInt32} {
		if y, n, e := record.TakeTxn(form(1, 1, 0, 0, 1, table, 0, 0, 9)); e != api.OK || y.Reads[0].Table != int32(table) || n != len(form(1, 1, 0, 0, 1, table, 0, 0)) {
			t.Error(y, n, e)
		}
	}
}

// P4.3: each error of TakeEntry, and which of two is told.
func TestTakeEntryErrors(t *testing.T) {
	x := []any{1, 3, 0, 0, 0, 0}
	for _, c := range []struct {
		what string
		b    []byte
		e    api.Errno
	}{
		{"no number", bad(nil), api.ErrForm},
		{"a kind below", form(-1), api.ErrField},
		{"a kind above", form(2), api.ErrField},
		{"a kind far above", bad(form(1<<32 + 1)), api.ErrField},
		{"a kind above, and no number", bad(form(2)), api.ErrField},
		{"nothing, and more", form(0, 0), api.ErrMore},
		{"nothing, and no number", bad(form(0)), api.ErrMore},
		{"a batch that ends", form(1, 2), api.ErrEnds},
		{"transactions below 0", form(1, 2, 5, -1), api.ErrField},
		{"transactions above MaxList", bad(form(1, 2, 5, api.MaxList+1)), api.ErrField},
		{"as many as MaxList, which end", form(1, 2, 5, api.MaxList), api.ErrEnds},
		{"none", form(1, 2, 5, 0), api.ErrField},
		{"none, and more", form(1, 2, 5, 0, 0), api.ErrMore},
		{"one more than MaxTxns", form(1, 2, 5, 17, x, x, x, x, x, x, x, x, x, x, x, x, x, x, x, x, x), api.ErrField},
		{"one more than MaxTxns, and more", form(1, 2, 5, 17, x, x, x, x, x, x, x, x, x, x, x, x, x, x, x, x, x, 0), api.ErrMore},
		{"one more than MaxTxns, which end", form(1, 2, 5, 17, x, x, x, x, x, x, x, x, x, x, x, x, x, x, x, x), api.ErrEnds},
		{"replica 5", form(1, 5, 5, 1, x), api.ErrField},
		{"replica 5, and more", form(1, 5, 5, 1, x, 0), api.ErrMore},
		{"replica 5, and an end", cut(form(1, 5, 5, 1, x)), api.ErrEnds},
		{"replica 5, and transactions below 0", bad(form(1, 5, 5, -1)), api.ErrField},
		{"replica 2^32", form(1, 1<<32, 5, 1, x), api.ErrField},
		{"a number below 0", form(1, 2, -1, 1, x), api.ErrField},
		{"a number below 0, and more", bad(form(1, 2, -1, 1, x)), api.ErrMore},
		{"a transaction's request 0", form(1, 2, 5, 2, x, 1, 0, 0, 0, 0, 0), api.ErrField},
		{"a transaction's request 0, and more", form(1, 2, 5, 2, x, 1, 0, 0, 0, 0, 0, 0), api.ErrMore},
		{"a transaction's request 0, and no number in the next", bad(form(1, 2, 5, 2, 1, 0, 0, 0, 0, 0)), api.ErrForm},
		{"a transaction's arguments below 0", bad(form(1, 2, 5, 1, 1, 3, 0, -1)), api.ErrField},
		{"a transaction's code below 0", form(1, 2, 5, 1, 1, 3, -1), api.ErrForm},
		{"a table of no int32", form(1, 2, 5, 1, 1, 3, 0, 0, 1, 1<<32+1, 0, 0), api.ErrField},
		{"a table of no int32, and more", form(1, 2, 5, 1, 1, 3, 0, 0, 1, 1<<32+1, 0, 0, 0), api.ErrMore},
		{"a table of no int32, and an end", cut(form(1, 2, 5, 1, 1, 3, 0, 0, 1, 1<<32+1, 0, 0)), api.ErrEnds},
		{"a table of no int32, and lists above MaxList", bad(form(1, 2, 5, 1, 1, 3, 0, 0, 1, 1<<32+1, 0, api.MaxList+1)), api.ErrField},
		{"a whole one, and more", form(1, 2, 5, 1, x, 7), api.ErrMore},
	} {
		if v, e := record.TakeEntry(c.b); e != c.e || !record.SameEntry(v, api.Entry{}) {
			t.Error(c.what, v, e)
		}
	}
}

// P4.3: each error of Unmarshal, and which of two is told.
func TestUnmarshalErrors(t *testing.T) {
	good := sealed(form(2, 1, 2, 3, true))
	if m, e := record.Unmarshal(good); e != api.OK || !record.SameMsg(m, api.Msg{Kind: api.MsVoted, From: 1, To: 2, Term: 3, Yes: true}) {
		t.Fatal(m, e)
	}
	wrong := slices.Clone(good)
	wrong[3]++
	for _, c := range []struct {
		what string
		b    []byte
		e    api.Errno
	}{
		{"nothing", nil, api.ErrEnds},
		{"no number", []byte{1}, api.ErrForm},
		{"a length below 0", form(-1), api.ErrForm},
		{"a length above MaxBytes", form(api.MaxBytes + 1), api.ErrLong},
		{"a wrong check", wrong, api.ErrCheck},
		{"a wrong check, and more", append(slices.Clone(wrong), 0), api.ErrCheck},
		{"bytes behind the seal", append(slices.Clone(good), 0), api.ErrMore},
		{"bytes behind the seal, and no kind in it", append(sealed(form(7)), 0), api.ErrMore},
		{"bytes behind the seal, and nothing in it", append(sealed(nil), 0), api.ErrMore},
		{"nothing in the seal", sealed(nil), api.ErrEnds},
		{"no number in the seal", sealed(bad(nil)), api.ErrForm},
		{"kind 0", sealed(form(0)), api.ErrField},
		{"kind 7", sealed(bad(form(7))), api.ErrField},
		{"kind 2^32 and 2", sealed(form(1<<32+2, 1, 2, 3, true)), api.ErrField},
		{"kind below 0", sealed(bad(form(-1))), api.ErrField},
		{"an end", sealed(form(2, 1, 2, 3)), api.ErrEnds},
		{"a flag of 2", sealed(form(2, 1, 2, 3, 2)), api.ErrField},
		{"a flag below 0", sealed(form(2, 1, 2, 3, -1)), api.ErrField},
		{"a flag of 2^32 and one", sealed(form(2, 1, 2, 3, 1<<32+1)), api.ErrField},
		{"a flag of 2, and more", sealed(form(2, 1, 2, 3, 2, 0)), api.ErrField},
		{"a flag of 2, and no number", sealed(bad(form(4, 1, 2, 3, 2))), api.ErrField},
		{"a flag of 2, and an end", sealed(form(4, 1, 2, 3, 2)), api.ErrField},
		{"a flag that is no number", sealed(bad(form(2, 1, 2, 3))), api.ErrForm},
		{"bytes behind the form", sealed(form(2, 1, 2, 3, 1, 0)), api.ErrMore},
		{"bytes that are no number behind the form", sealed(bad(form(2, 1, 2, 3, 1))), api.ErrMore},
		{"replica 5", sealed(form(2, 5, 2, 3, 1)), api.ErrField},
		{"to replica 5", sealed(form(2, 1, 5, 3, 1)), api.ErrField},
		{"replica 5, and more", sealed(form(2, 5, 2, 3, 1, 0)), api.ErrMore},
		{"replica 5, and an end", sealed(form(2, 5, 2, 3)), api.ErrEnds},
		{"replica 5, and no number", sealed(bad(form(2, 5, 2, 3))), api.ErrForm},
		{"replica 2^32 and one", sealed(form(2, 1<<32+1, 2, 3, 1)), api.ErrField},
		{"a term below 0, and more", sealed(form(1, 0, 1, -1, 0, 0, 0)), api.ErrMore},
		{"a list below 0", sealed(bad(form(3, 0, 1, 2, 3, 4, 5, -1))), api.ErrField},
		{"a list above MaxList", sealed(bad(form(3, 0, 1, 2, 3, 4, 5, api.MaxList+1))), api.ErrField},
		{"a list of MaxList that ends", sealed(form(3, 0, 1, 2, 3, 4, 5, api.MaxList)), api.ErrEnds},
		{"a kind of an entry in a list", sealed(bad(form(3, 0, 1, 2, 3, 4, 5, 2, 6, 2))), api.ErrField},
		{"a kind of an entry in a list, below", sealed(bad(form(3, 0, 1, 2, 3, 4, 5, 2, 6, 0, 6, -1))), api.ErrField},
		{"a term below 0 in a list, and a kind that is none", sealed(bad(form(3, 0, 1, 2, 3, 4, 5, 1, -1, 2))), api.ErrField},
		{"a term below 0 in a list", sealed(form(3, 0, 1, 2, 3, 4, 5, 1, -1, 0)), api.ErrField},
		{"a term below 0 in a list, and more", sealed(form(3, 0, 1, 2, 3, 4, 5, 1, -1, 0, 0)), api.ErrMore},
		{"an entry of no kind", sealed(bad(form(6, 0, 1, 2))), api.ErrField},
		{"an empty batch", sealed(form(6, 0, 1, 1, 0, 0, 0)), api.ErrField},
		{"an empty batch, and more", sealed(form(6, 0, 1, 1, 0, 0, 0, 0)), api.ErrMore},
		{"a table of no int32, and more", sealed(form(6, 0, 1, 1, 0, 0, 1, 1, 3, 0, 0, 0, 1, 1<<32, 0, 0)), api.ErrMore},
		{"a table of no int32", sealed(form(6, 0, 1, 1, 0, 0, 1, 1, 3, 0, 0, 0, 1, 1<<32, 0)), api.ErrField},
		{"data below 0", sealed(form(5, 0, 1, 2, 3, 4, 5, 0, 1, -1)), api.ErrForm},
		{"data that end", sealed(form(5, 0, 1, 2, 3, 4, 5, 0, 1, api.MaxData+1)), api.ErrEnds},
		{"too many data", sealed(form(5, 0, 1, 2, 3, 4, 5, 0, 1, make([]byte, api.MaxData+1))), api.ErrField},
		{"too many data, and more", sealed(form(5, 0, 1, 2, 3, 4, 5, 0, 1, make([]byte, api.MaxData+1), 0)), api.ErrMore},
		{"an index that is none", sealed(form(5, 0, 1, 2, 3, 4, 5, 1, 1, 0)), api.ErrField},
		{"an index of 2^32", sealed(form(5, 0, 1, 2, 3, 4, 5, 1<<32, 1, 0)), api.ErrField},
		{"many of 2^32 and one", sealed(form(5, 0, 1, 2, 3, 4, 5, 0, 1<<32+1, 0)), api.ErrField},
	} {
		if m, e := record.Unmarshal(c.b); e != c.e || !record.SameMsg(m, api.Msg{}) {
			t.Error(c.what, m, e)
		}
	}
}

// P4.6: a beginning of a message's bytes ends too early, and so does that of an entry's and of a transaction's.
func TestBeginnings(t *testing.T) {
	for kind := api.MsVote; kind <= api.MsForward; kind++ {
		b, _ := record.Marshal(sampleMsg(kind))
		for n := range len(b) {
			if m, e := record.Unmarshal(b[:n]); e != api.ErrEnds || !record.SameMsg(m, api.Msg{}) {
				t.Fatal(kind, n, m, e)
			}
		}
	}
	b, _ := record.Entry(batch(2))
	for n := range len(b) {
		if v, e := record.TakeEntry(b[:n]); e != api.ErrEnds || !record.SameEntry(v, api.Entry{}) {
			t.Fatal(n, v, e)
		}
	}
	b, _ = record.PutTxn(nil, sampleTxn())
	for n := range len(b) {
		if x, size, e := record.TakeTxn(b[:n]); e != api.ErrEnds || size != 0 || !record.SameTxn(x, api.Txn{}) {
			t.Fatal(n, x, size, e)
		}
	}
}

// P4.6: no bit of a message's bytes can be turned so that the same is told; behind the length none can be turned at all.
func TestTurnedBits(t *testing.T) {
	long := sampleMsg(api.MsPart)
	long.Part.Data = make([]byte, 3000)
	for _, m := range []api.Msg{sampleMsg(1), sampleMsg(2), sampleMsg(3), sampleMsg(4), sampleMsg(5), sampleMsg(6), long, {Kind: api.MsVoted}} {
		b, _ := record.Marshal(m)
		_, length, _ := shape.TakeNum(b)
		for i := range 8 * len(b) {
			b[i/8] ^= 1 << (i % 8)
			n, e := record.Unmarshal(b)
			if e == api.OK && record.SameMsg(m, n) || i/8 >= length && e != api.ErrCheck || e != api.OK && !record.SameMsg(n, api.Msg{}) {
				t.Fatal(m, i, n, e)
			}
			b[i/8] ^= 1 << (i % 8)
		}
	}
}

// THE BOUND: the greatest message is written and read in memory that grows with its bytes, not with their square; a length that says more than there is costs nothing.
func TestBound(t *testing.T) {
	m := api.Msg{Kind: api.MsAppend}
	for len(m.List) < api.MaxList {
		m.List = append(m.List, api.Termed{Term: 1, Entry: batch(6)})
	}
	spent := func(do func()) uint64 {
		var was, now runtime.MemStats
		runtime.ReadMemStats(&was)
		do()
		runtime.ReadMemStats(&now)
		return now.TotalAlloc - was.TotalAlloc
	}
	var b []byte
	if n := spent(func() { b, _ = record.Marshal(m) }); len(b) < api.MaxBytes/2 || n > 64<<20 {
		t.Error("Marshal", len(b), n)
	}
	if n := spent(func() { record.Unmarshal(b) }); n > 64<<20 {
		t.Error("Unmarshal", n)
	}
	short := form(1, 2, 5, api.MaxList)
	if n := spent(func() { record.TakeEntry(short) }); n > 1<<14 {
		t.Error("TakeEntry", n)
	}
	ahead := form(txnParts(sampleTxn()), make([]byte, api.MaxBytes))
	if n := spent(func() { record.TakeTxn(ahead) }); n > 1<<14 {
		t.Error("TakeTxn", n)
	}
}

// R6: the same calls answer the same, also behind calls that were refused.
func TestCallsKeepNothing(t *testing.T) {
	calls := func() string {
		b, e := record.Marshal(sampleMsg(api.MsAppend))
		m, f := record.Unmarshal(b)
		x, n, g := record.TakeTxn(form(txnParts(sampleTxn())...))
		return text(b, e, m, f, x, n, g)
	}
	was := calls()
	record.Marshal(fullMsg())
	record.Unmarshal(sealed(form(2, 1, 2, 3, 2)))
	record.TakeTxn(form(1, 1, 0, 0, 1, 1<<40, 0, 0))
	record.TakeEntry([]byte{0, 0})
	if now := calls(); now != was {
		t.Error(was, now)
	}
}

// lists goes through all lists within a value, by the places of their memory.
func lists(v reflect.Value, do func(reflect.Value)) {
	switch v.Kind() {
	case reflect.Slice:
		do(v)
		for i := range v.Len() {
			lists(v.Index(i), do)
		}
	case reflect.Struct:
		for i := range v.NumField() {
			lists(v.Field(i), do)
		}
	}
}
