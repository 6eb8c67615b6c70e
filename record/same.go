package record

import (
	"bytes"
	"slices"

	"trivet/api"
)

// SameTxn tells whether two transactions are the same.
func SameTxn(a, b api.Txn) bool {
	return a.Session == b.Session && a.Request == b.Request &&
		bytes.Equal(a.Code, b.Code) && slices.Equal(a.Args, b.Args) &&
		slices.Equal(a.Reads, b.Reads) && slices.Equal(a.Writes, b.Writes)
}

// SameEntry tells whether two entries are the same.
func SameEntry(a, b api.Entry) bool {
	return a.Kind == b.Kind && a.From == b.From && a.Number == b.Number && slices.EqualFunc(a.Txns, b.Txns, SameTxn)
}

// SameMsg tells whether two messages are the same, in the fields that their Kind does not have, too.
func SameMsg(a, b api.Msg) bool {
	return a.Kind == b.Kind && a.From == b.From && a.To == b.To &&
		a.Term == b.Term && a.Slot == b.Slot && a.Last == b.Last && a.Commit == b.Commit && a.Yes == b.Yes &&
		slices.EqualFunc(a.List, b.List, sameTermed) && SameEntry(a.Entry, b.Entry) && samePart(a.Part, b.Part)
}

func sameTermed(a, b api.Termed) bool { return a.Term == b.Term && SameEntry(a.Entry, b.Entry) }

func samePart(a, b api.Part) bool {
	return a.Slot == b.Slot && a.Index == b.Index && a.Many == b.Many && bytes.Equal(a.Data, b.Data)
}

// CloneTxn is the same transaction, in memory of its own.
func CloneTxn(t api.Txn) api.Txn {
	t.Code = slices.Clone(t.Code)
	t.Args = slices.Clone(t.Args)
	t.Reads = slices.Clone(t.Reads)
	t.Writes = slices.Clone(t.Writes)
	return t
}

// CloneEntry is the same entry, in memory of its own.
func CloneEntry(e api.Entry) api.Entry {
	e.Txns = cloneList(e.Txns, CloneTxn)
	return e
}

// CloneMsg is the same message, in memory of its own.
func CloneMsg(m api.Msg) api.Msg {
	m.List = cloneList(m.List, cloneTermed)
	m.Entry = CloneEntry(m.Entry)
	m.Part.Data = slices.Clone(m.Part.Data)
	return m
}

func cloneTermed(t api.Termed) api.Termed {
	t.Entry = CloneEntry(t.Entry)
	return t
}

// cloneList copies the parts too, which slices.Clone leaves as they are.
func cloneList[T any](l []T, clone func(T) T) []T {
	c := slices.Clone(l)
	for i, x := range c {
		c[i] = clone(x)
	}
	return c
}
