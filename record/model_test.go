package record_test

import (
	"bytes"
	"math"
	"math/rand"
	"reflect"
	"slices"
	"strings"
	"testing"

	"trivet/api"
	"trivet/record"
	"trivet/shape"
)

// The chapter's words once more, by other means than the package's: a list of parts for the form, a reader that panics, a text by Kind for the fields.

// form is parts one behind the other: ints as numbers, bytes as blobs, flags; a list is given as its length and its parts.
func form(parts ...any) []byte {
	var b []byte
	for _, p := range parts {
		switch x := p.(type) {
		case int:
			b = append(b, shape.Num(nil, int64(x))...)
		case int64:
			b = append(b, shape.Num(nil, x)...)
		case []byte:
			b = append(b, shape.Blob(nil, x)...)
		case bool:
			b = append(b, map[bool][]byte{true: {2, 1}, false: {0}}[x]...)
		case []any:
			b = append(b, form(x...)...)
		default:
			panic(reflect.TypeOf(p))
		}
	}
	return b
}

func keyParts(l []api.Key) []any {
	p := []any{len(l)}
	for _, k := range l {
		p = append(p, int64(k.Table), k.Row)
	}
	return p
}

func txnParts(t api.Txn) []any {
	p := []any{t.Session, t.Request, t.Code, len(t.Args)}
	for _, n := range t.Args {
		p = append(p, n)
	}
	return append(p, keyParts(t.Reads), keyParts(t.Writes))
}

func entryParts(e api.Entry) []any {
	if e.Kind == api.EnNone {
		return []any{0}
	}
	p := []any{e.Kind, e.From, e.Number, len(e.Txns)}
	for _, t := range e.Txns {
		p = append(p, txnParts(t))
	}
	return p
}

func partParts(p api.Part) []any { return []any{p.Slot, p.Index, p.Many, p.Data} }

// named is the chapter's list of what stands behind Kind, From and To, in order.
func named(kind int) string {
	return map[int]string{
		api.MsVote: "Term Slot Last", api.MsVoted: "Term Yes", api.MsAppend: "Term Slot Last Commit List",
		api.MsAppended: "Term Yes Slot", api.MsPart: "Term Slot Last Part", api.MsForward: "Entry",
	}[kind]
}

func messageParts(m api.Msg) []any {
	p := []any{m.Kind, m.From, m.To}
	for _, name := range strings.Fields(named(m.Kind)) {
		switch name {
		case "List":
			p = append(p, len(m.List))
			for _, t := range m.List {
				p = append(p, t.Term, entryParts(t.Entry))
			}
		case "Part":
			p = append(p, partParts(m.Part))
		case "Entry":
			p = append(p, entryParts(m.Entry))
		default:
			p = append(p, reflect.ValueOf(m).FieldByName(name).Interface())
		}
	}
	return p
}

// sealed is a form as Unmarshal takes it.
func sealed(b []byte) []byte {
	s, e := shape.Seal(b)
	if e != api.OK {
		panic(e)
	}
	return s
}

// between tells whether n is one of from to to.
func between[T int | int64](n, from, to T) bool { return n >= from && n <= to }

func modelKeys(l []api.Key) bool {
	for i, k := range l {
		if i > 0 && (k.Table < l[i-1].Table || k.Table == l[i-1].Table && k.Row <= l[i-1].Row) {
			return false
		}
	}
	return len(l) <= 16
}

func modelTxn(t api.Txn) bool {
	return between(t.Session, 1, 1<<40) && between(t.Request, 1, 1<<40) && len(t.Code) <= 512 && len(t.Args) <= 8 && modelKeys(t.Reads) && modelKeys(t.Writes)
}

func modelEntry(e api.Entry) bool {
	if e.Kind == 0 {
		return e.From == 0 && e.Number == 0 && len(e.Txns) == 0
	}
	good := e.Kind == 1 && between(e.From, 0, 4) && between(e.Number, 0, 1<<40) && between(len(e.Txns), 1, 16)
	for _, t := range e.Txns {
		good = good && modelTxn(t)
	}
	return good
}

// nothing tells whether a value is zero, empty lists being so.
func nothing(v reflect.Value) bool {
	switch v.Kind() {
	case reflect.Slice:
		return v.Len() == 0
	case reflect.Struct:
		for i := range v.NumField() {
			if !nothing(v.Field(i)) {
				return false
			}
		}
		return true
	}
	return v.IsZero()
}

func modelMsg(m api.Msg) bool {
	good := between(m.Kind, 1, 6) && between(m.From, 0, 4) && between(m.To, 0, 4) && modelEntry(m.Entry) && len(m.List) <= 4096
	for _, n := range []int64{m.Term, m.Slot, m.Last, m.Commit, m.Part.Slot} {
		good = good && between(n, 0, 1<<40)
	}
	for _, t := range m.List {
		good = good && between(t.Term, 0, 1<<40) && modelEntry(t.Entry)
	}
	if m.Kind == api.MsPart {
		good = good && between(m.Part.Many, 1, 4096) && between(m.Part.Index, 0, m.Part.Many-1) && len(m.Part.Data) <= 1<<14
	}
	v := reflect.ValueOf(m)
	for i := range v.NumField() {
		name := v.Type().Field(i).Name
		if !slices.Contains(strings.Fields("Kind From To "+named(m.Kind)), name) {
			good = good && nothing(v.Field(i))
		}
	}
	return good
}

type stop struct{ e api.Errno }

// eye reads as the chapter says, and gives up by a panic.
type eye struct {
	b    []byte
	wide bool // a Table that no int32 holds was read
}

// seen is what is read of b, how many bytes of it, and the error.
func seen[T any](b []byte, whole bool, read func(*eye) T, mayBe func(T) bool) (v T, n int, e api.Errno) {
	defer func() {
		if x := recover(); x != nil {
			var none T
			v, n, e = none, 0, x.(stop).e
		}
	}()
	y := &eye{b: b}
	v = read(y)
	if whole && len(y.b) > 0 {
		panic(stop{api.ErrMore})
	}
	if y.wide || !mayBe(v) {
		panic(stop{api.ErrField})
	}
	return v, len(b) - len(y.b), api.OK
}

func (y *eye) num() int64 {
	n, size, e := shape.TakeNum(y.b)
	if e != api.OK {
		panic(stop{e})
	}
	y.b = y.b[size:]
	return n
}

func (y *eye) blob() []byte {
	d, size, e := shape.TakeBlob(y.b)
	if e != api.OK {
		panic(stop{e})
	}
	y.b = y.b[size:]
	return d
}

// within is a number that is refused at once, unless it is one of from to to.
func (y *eye) within(from, to int64) int {
	n := y.num()
	if !between(n, from, to) {
		panic(stop{api.ErrField})
	}
	return int(n)
}

func (y *eye) keys() (l []api.Key) {
	for range y.within(0, 4096) {
		table := y.num()
		y.wide = y.wide || !between(table, math.MinInt32, math.MaxInt32)
		l = append(l, api.Key{Table: int32(table), Row: y.num()})
	}
	return l
}

func (y *eye) txn() (t api.Txn) {
	t.Session = y.num()
	t.Request = y.num()
	t.Code = y.blob()
	for range y.within(0, 4096) {
		t.Args = append(t.Args, y.num())
	}
	t.Reads = y.keys()
	t.Writes = y.keys()
	return t
}

func (y *eye) entry() (e api.Entry) {
	e.Kind = y.within(0, 1)
	if e.Kind == 1 {
		e.From = int(y.num())
		e.Number = y.num()
		for range y.within(0, 4096) {
			e.Txns = append(e.Txns, y.txn())
		}
	}
	return e
}

func (y *eye) message() (m api.Msg) {
	m.Kind = y.within(1, 6)
	m.From = int(y.num())
	m.To = int(y.num())
	for _, name := range strings.Fields(named(m.Kind)) {
		switch name {
		case "Yes":
			m.Yes = y.within(0, 1) == 1
		case "List":
			for range y.within(0, 4096) {
				term := y.num()
				m.List = append(m.List, api.Termed{Term: term, Entry: y.entry()})
			}
		case "Part":
			m.Part.Slot = y.num()
			m.Part.Index = int(y.num())
			m.Part.Many = int(y.num())
			m.Part.Data = y.blob()
		case "Entry":
			m.Entry = y.entry()
		default:
			reflect.ValueOf(&m).Elem().FieldByName(name).SetInt(y.num())
		}
	}
	return m
}

// drawer makes values that may be, most of them small, some at their limits.
type drawer struct{ *rand.Rand }

func draws(seed int64) drawer { return drawer{rand.New(rand.NewSource(seed))} }

// upTo is a number from least to most: near the one, near the other, or anywhere.
func (d drawer) upTo(least, most int64) int64 {
	switch d.Intn(8) {
	case 0:
		return most
	case 1:
		return least + d.Int63n(most-least+1)
	}
	return min(least+d.Int63n(4), most)
}

func (d drawer) any() int64 {
	return []int64{0, 1, -1, 300, -300, math.MaxInt64, math.MinInt64, d.Int63() - d.Int63()}[d.Intn(8)]
}

func (d drawer) bytes(most int) []byte {
	b := make([]byte, d.upTo(0, int64(most)))
	d.Read(b)
	return b
}

func (d drawer) keys() (l []api.Key) {
	tables := []int32{math.MinInt32, -1, 0, 1, 2, math.MaxInt32}
	for range d.upTo(0, api.MaxKeys) {
		l = append(l, api.Key{Table: tables[d.Intn(len(tables))], Row: d.any()})
	}
	slices.SortFunc(l, func(a, b api.Key) int {
		if a == b {
			return 0
		}
		if a.Table < b.Table || a.Table == b.Table && a.Row < b.Row {
			return -1
		}
		return 1
	})
	return slices.Compact(l)
}

func (d drawer) txn() (t api.Txn) {
	t.Session, t.Request, t.Code = d.upTo(1, api.MaxTime), d.upTo(1, api.MaxTime), d.bytes(api.MaxCode)
	for range d.upTo(0, api.MaxArgs) {
		t.Args = append(t.Args, d.any())
	}
	t.Reads, t.Writes = d.keys(), d.keys()
	return t
}

func (d drawer) entry() (e api.Entry) {
	if d.Intn(3) == 0 {
		return e
	}
	e = api.Entry{Kind: api.EnBatch, From: d.Intn(5), Number: d.upTo(0, api.MaxTime)}
	for range d.upTo(1, api.MaxTxns) {
		e.Txns = append(e.Txns, d.txn())
	}
	return e
}

func (d drawer) message() api.Msg {
	m := api.Msg{Kind: 1 + d.Intn(6), From: d.Intn(5), To: d.Intn(5)}
	for _, name := range strings.Fields(named(m.Kind)) {
		switch name {
		case "Yes":
			m.Yes = d.Intn(2) == 1
		case "List":
			for range d.Intn(5) {
				m.List = append(m.List, api.Termed{Term: d.upTo(0, api.MaxTime), Entry: d.entry()})
			}
		case "Part":
			m.Part = api.Part{Slot: d.upTo(0, api.MaxTime), Many: int(d.upTo(1, api.MaxList)), Data: d.bytes(api.MaxData)}
			m.Part.Index = d.Intn(m.Part.Many)
		case "Entry":
			m.Entry = d.entry()
		default:
			reflect.ValueOf(&m).Elem().FieldByName(name).SetInt(d.upTo(0, api.MaxTime))
		}
	}
	return m
}

// spoilt is b with some of it turned, cut out, doubled or put in: bytes that are nearly a form.
func (d drawer) spoilt(b []byte) []byte {
	b = slices.Clone(b)
	for range 1 + d.Intn(2) {
		i := d.Intn(len(b) + 1)
		if d.Intn(2) == 0 { // near the beginning, where the lengths and kinds of short ones stand
			i = d.Intn(min(len(b), 24) + 1)
		}
		switch d.Intn(5) {
		case 0:
			b = b[:i]
		case 1:
			b = slices.Insert(b, i, byte(d.Intn(6)))
		case 2:
			b = slices.Insert(b, i, form(d.number())...)
		case 3:
			if i < len(b) {
				b = slices.Delete(b, i, i+1)
			}
		default:
			if i < len(b) {
				b[i] ^= 1 << d.Intn(8)
			}
		}
	}
	return b
}

// number is one at which some value, length or kind stops being one.
func (d drawer) number() int64 {
	l := []int64{-1, 0, 1, 2, 4, 5, 6, 7, 8, 9, 16, 17, 4096, 4097, 1 << 31, -1<<31 - 1, 1<<32 + 1, 1 << 40, 1<<40 + 1, math.MinInt64}
	return l[d.Intn(len(l))]
}

// P4.1, P4.2, P4.4: values that may be pass, their form is the chapter's, and they are read as they were.
func TestDrawnValues(t *testing.T) {
	d := draws(1)
	for range 1500 {
		x, e, m, ahead := d.txn(), d.entry(), d.message(), d.bytes(9)
		if record.CheckTxn(x) != api.OK || record.CheckKeys(x.Reads) != api.OK || record.CheckEntry(e) != api.OK || record.CheckMsg(m) != api.OK {
			t.Fatal(x, e, m)
		}
		b, no := record.PutTxn(ahead, x)
		if want := form(txnParts(x)...); no != api.OK || !bytes.Equal(b, append(slices.Clone(ahead), want...)) {
			t.Fatal(x, b, no)
		}
		if y, n, no := record.TakeTxn(append(b[len(ahead):], ahead...)); no != api.OK || n != len(b)-len(ahead) || !record.SameTxn(x, y) {
			t.Fatal(x, y, n, no)
		}
		b, no = record.Entry(e)
		if no != api.OK || !bytes.Equal(b, form(entryParts(e)...)) {
			t.Fatal(e, b, no)
		}
		if f, no := record.TakeEntry(b); no != api.OK || !record.SameEntry(e, f) {
			t.Fatal(e, f, no)
		}
		b, no = record.Marshal(m)
		if no != api.OK || !bytes.Equal(b, sealed(form(messageParts(m)...))) {
			t.Fatal(m, b, no)
		}
		if n, no := record.Unmarshal(b); no != api.OK || !record.SameMsg(m, n) {
			t.Fatal(m, n, no)
		}
	}
}

// agree holds what is taken of any bytes against the model, and what was taken, written again, against the bytes.
func agree(t *testing.T, b []byte) [3]api.Errno {
	x, n, e1 := record.TakeTxn(b)
	y, k, e := seen(b, false, (*eye).txn, modelTxn)
	if e1 != e || n != k || !record.SameTxn(x, y) {
		t.Fatal("TakeTxn", b, x, n, e1, "not", y, k, e)
	}
	if again, no := record.PutTxn(nil, x); e1 == api.OK && (no != api.OK || !bytes.Equal(again, b[:n])) {
		t.Fatal("TakeTxn", b, again, no)
	}
	v, e2 := record.TakeEntry(b)
	w, _, e := seen(b, true, (*eye).entry, modelEntry)
	if e2 != e || !record.SameEntry(v, w) {
		t.Fatal("TakeEntry", b, v, e2, "not", w, e)
	}
	if again, no := record.Entry(v); e2 == api.OK && (no != api.OK || !bytes.Equal(again, b)) {
		t.Fatal("TakeEntry", b, again, no)
	}
	s := sealed(b)
	m, e3 := record.Unmarshal(s)
	o, _, e := seen(b, true, (*eye).message, modelMsg)
	if e3 != e || !record.SameMsg(m, o) {
		t.Fatal("Unmarshal", b, m, e3, "not", o, e)
	}
	if again, no := record.Marshal(m); e3 == api.OK && (no != api.OK || !bytes.Equal(again, s)) {
		t.Fatal("Unmarshal", b, again, no)
	}
	return [3]api.Errno{e1, e2, e3}
}

// P4.3, P4.4: of bytes that are nearly forms, and of all short ones, what the chapter says is told.
func TestTakenOfAnyBytes(t *testing.T) {
	told := map[[2]int]int{} // how often each error was told, by who told it
	look := func(b []byte) {
		for who, e := range agree(t, b) {
			told[[2]int{who, int(e)}]++
		}
	}
	look(nil)
	for i := range 256 {
		look([]byte{byte(i)})
		for j := range 256 {
			look([]byte{byte(i), byte(j)})
		}
	}
	d := draws(2)
	for range 20000 {
		look(d.spoilt(form(txnParts(d.txn())...)))
		look(d.spoilt(form(entryParts(d.entry())...)))
		look(d.spoilt(form(messageParts(d.message())...)))
	}
	for who := range 3 {
		for _, e := range []api.Errno{api.OK, api.ErrEnds, api.ErrForm, api.ErrField, api.ErrMore} {
			if n := told[[2]int{who, int(e)}]; n < 100 && (who > 0 || e != api.ErrMore) {
				t.Error("too few to say anything:", who, e, n)
			}
		}
	}
}

// P4.1: the checks are the chapter's, of values of which one field was changed.
func TestChecksOfChangedValues(t *testing.T) {
	d := draws(3)
	refused := 0
	for range 20000 {
		m, o := d.message(), d.message()
		to, from := reflect.ValueOf(&m).Elem(), reflect.ValueOf(o)
		i := d.Intn(to.NumField())
		to.Field(i).Set(from.Field(i))
		if k := to.Field(i).Kind(); (k == reflect.Int || k == reflect.Int64) && d.Intn(2) == 0 {
			to.Field(i).SetInt(d.number())
		}
		good := modelMsg(m)
		if e := record.CheckMsg(m); (e == api.OK) != good || !good && e != api.ErrField {
			t.Fatal(m, e)
		}
		if !good {
			refused++
		}
	}
	if refused < 2000 {
		t.Error("too few to say anything:", refused)
	}
}

// P4.5: values that are not the same have unlike forms.
func TestNoTwoAlike(t *testing.T) {
	d := draws(4)
	small := func() drawer { return drawer{rand.New(rand.NewSource(d.Int63n(40)))} } // few seeds, so that many are drawn twice
	txns, entries, messages := map[string]api.Txn{}, map[string]api.Entry{}, map[string]api.Msg{}
	for range 3000 {
		x, e, m := small().txn(), small().entry(), small().message()
		switch d.Intn(4) {
		case 0:
			x.Request = 1 + d.Int63n(3)
			m.From = d.Intn(5)
		case 1:
			x.Reads, x.Writes = x.Writes, x.Reads
			m.Slot, m.Last = m.Last, m.Slot
		}
		b, _ := record.PutTxn(nil, x)
		if y, ok := txns[string(b)]; ok && !record.SameTxn(x, y) {
			t.Fatal(x, y)
		}
		txns[string(b)] = x
		b, _ = record.Entry(e)
		if f, ok := entries[string(b)]; ok && !record.SameEntry(e, f) {
			t.Fatal(e, f)
		}
		entries[string(b)] = e
		if b, no := record.Marshal(m); no == api.OK {
			if n, ok := messages[string(b)]; ok && !record.SameMsg(m, n) {
				t.Fatal(m, n)
			}
			messages[string(b)] = m
		}
	}
	for one := range txns {
		for two := range txns {
			if (one == two) != record.SameTxn(txns[one], txns[two]) {
				t.Fatal(txns[one], txns[two])
			}
		}
	}
	for one := range messages {
		for two := range messages {
			if (one == two) != record.SameMsg(messages[one], messages[two]) {
				t.Fatal(messages[one], messages[two])
			}
		}
	}
}

// R1: any bytes at all are taken or refused, as the model says.
func FuzzTake(f *testing.F) {
	d := draws(5)
	for range 20 {
		f.Add(form(txnParts(d.txn())...))
		f.Add(form(entryParts(d.entry())...))
		f.Add(form(messageParts(d.message())...))
	}
	f.Fuzz(func(t *testing.T, b []byte) {
		if len(b) <= api.MaxBytes {
			agree(t, b)
		}
		record.Unmarshal(b) // as it is, unsealed
	})
}
