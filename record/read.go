package record

import (
	"trivet/api"
	"trivet/shape"
)

// reader goes through bytes from the left. Behind its first error it reads nothing more, so that what is read of several parts needs to ask nowhere whether those ahead were good.
type reader struct {
	b     []byte    // what is left
	err   api.Errno // the first error
	unfit bool      // a number was read that its field does not hold
}

// taken is what shape takes of the beginning of what is left.
func taken[T any](r *reader, take func([]byte) (T, int, api.Errno)) T {
	var none T
	if r.err != api.OK {
		return none
	}
	v, size, e := take(r.b)
	r.b, r.err = r.b[size:], e
	return v
}

// must refuses a value as soon as it is read.
func (r *reader) must(holds bool) {
	if !holds && r.err == api.OK {
		r.err = api.ErrField
	}
}

// end refuses bytes that are left.
func (r *reader) end() {
	if r.err == api.OK && len(r.b) > 0 {
		r.err = api.ErrMore
	}
}

// fault is the first error; or that what was read may not be, which is told last.
func (r *reader) fault(mayBe bool) api.Errno {
	if r.err != api.OK {
		return r.err
	}
	return verdict(mayBe && !r.unfit)
}

func (r *reader) num() int64 { return taken(r, shape.TakeNum) }

func (r *reader) blob() []byte { return taken(r, shape.TakeBlob) }

// fit is a number for a field that may be narrower than numbers are.
func fit[T int | int32](r *reader) T {
	n := r.num()
	if int64(T(n)) != n {
		r.unfit = true
	}
	return T(n)
}

func (r *reader) kind(least, most int64) int {
	n := r.num()
	r.must(n >= least && n <= most)
	return int(n)
}

func (r *reader) flag() bool {
	n := r.num()
	r.must(n == 0 || n == 1)
	return n == 1
}

// takeList makes no room ahead: its length may be far above what the bytes hold.
func takeList[T any](r *reader, take func() T) []T {
	n := r.num()
	r.must(n >= 0 && n <= api.MaxList)
	var l []T
	for i := int64(0); i < n && r.err == api.OK; i++ {
		l = append(l, take())
	}
	return l
}

func (r *reader) key() api.Key {
	return api.Key{Table: fit[int32](r), Row: r.num()}
}

func (r *reader) txn() api.Txn {
	var t api.Txn
	t.Session = r.num()
	t.Request = r.num()
	t.Code = r.blob()
	t.Args = takeList(r, r.num)
	t.Reads = takeList(r, r.key)
	t.Writes = takeList(r, r.key)
	return t
}

func (r *reader) entry() api.Entry {
	e := api.Entry{Kind: r.kind(api.EnNone, api.EnBatch)}
	if e.Kind == api.EnBatch {
		e.From = fit[int](r)
		e.Number = r.num()
		e.Txns = takeList(r, r.txn)
	}
	return e
}

func (r *reader) termed() api.Termed {
	return api.Termed{Term: r.num(), Entry: r.entry()}
}

func (r *reader) part() api.Part {
	return api.Part{Slot: r.num(), Index: fit[int](r), Many: fit[int](r), Data: r.blob()}
}

func (r *reader) message() api.Msg {
	m := api.Msg{Kind: r.kind(api.MsVote, api.MsForward)}
	m.From = fit[int](r)
	m.To = fit[int](r)
	r.fields(&m, fieldsOf(m.Kind)...)
	return m
}

func (r *reader) fields(m *api.Msg, l ...field) {
	for _, f := range l {
		switch f {
		case term:
			m.Term = r.num()
		case slot:
			m.Slot = r.num()
		case last:
			m.Last = r.num()
		case commit:
			m.Commit = r.num()
		case yes:
			m.Yes = r.flag()
		case list:
			m.List = takeList(r, r.termed)
		case entry:
			m.Entry = r.entry()
		case part:
			m.Part = r.part()
		}
	}
}
