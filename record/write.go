package record

import (
	"trivet/api"
	"trivet/shape"
)

// writer is what all forms are made of: numbers, bytes, flags, one behind the other.
type writer struct{ out []byte }

// nums has shape write the numbers alone: behind w.out, all that is written already would be copied each time.
func (w *writer) nums(l ...int64) {
	w.out = append(w.out, shape.Num(nil, l...)...)
}

func (w *writer) blob(d []byte) {
	w.out = append(w.out, shape.Blob(nil, d)...)
}

func (w *writer) flag(yes bool) {
	n := int64(0)
	if yes {
		n = 1
	}
	w.nums(n)
}

// putList writes a list: its length, and each part.
func putList[T any](w *writer, l []T, put func(T)) {
	w.nums(int64(len(l)))
	for _, x := range l {
		put(x)
	}
}

// entryWriter writes entries, and what they are made of.
type entryWriter struct{ *writer }

func (w entryWriter) key(k api.Key) { w.nums(int64(k.Table), k.Row) }

func (w entryWriter) txn(t api.Txn) {
	w.nums(t.Session, t.Request)
	w.blob(t.Code)
	w.nums(int64(len(t.Args)))
	w.nums(t.Args...)
	putList(w.writer, t.Reads, w.key)
	putList(w.writer, t.Writes, w.key)
}

func (w entryWriter) entry(e api.Entry) {
	w.nums(int64(e.Kind))
	if e.Kind == api.EnBatch {
		w.nums(int64(e.From), e.Number)
		putList(w.writer, e.Txns, w.txn)
	}
}

func (w entryWriter) termed(t api.Termed) {
	w.nums(t.Term)
	w.entry(t.Entry)
}

// partWriter writes parts of checkpoints.
type partWriter struct{ *writer }

func (w partWriter) part(p api.Part) {
	w.nums(p.Slot, int64(p.Index), int64(p.Many))
	w.blob(p.Data)
}

// messageWriter writes messages. Its writers of entries and of parts write to the same bytes as it does.
type messageWriter struct {
	*writer
	entryWriter
	partWriter
}

func newMessageWriter() messageWriter {
	w := &writer{}
	return messageWriter{w, entryWriter{w}, partWriter{w}}
}

func (w messageWriter) message(m api.Msg) {
	w.nums(int64(m.Kind), int64(m.From), int64(m.To))
	w.fields(m, fieldsOf(m.Kind)...)
}

func (w messageWriter) fields(m api.Msg, l ...field) {
	for _, f := range l {
		switch f {
		case term:
			w.nums(m.Term)
		case slot:
			w.nums(m.Slot)
		case last:
			w.nums(m.Last)
		case commit:
			w.nums(m.Commit)
		case yes:
			w.flag(m.Yes)
		case list:
			putList(w.writer, m.List, w.termed)
		case entry:
			w.entry(m.Entry)
		case part:
			w.part(m.Part)
		}
	}
}
