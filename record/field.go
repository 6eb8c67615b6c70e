package record

import "trivet/api"

// field is a field that messages of some kinds have.
type field int

const (
	term field = iota
	slot
	last
	commit
	yes
	list
	entry
	part
)

// fieldsOf is the fields behind Kind, From and To, in the order of the form; none of a kind that there is not. Writing, reading and checking go by it, so that they can't come apart.
func fieldsOf(kind int) []field {
	switch kind {
	case api.MsVote:
		return []field{term, slot, last}
	case api.MsVoted:
		return []field{term, yes}
	case api.MsAppend:
		return []field{term, slot, last, commit, list}
	case api.MsAppended:
		return []field{term, yes, slot}
	case api.MsPart:
		return []field{term, slot, last, part}
	case api.MsForward:
		return []field{entry}
	}
	return nil
}

func fieldMayBe(m api.Msg, f field) bool {
	switch f {
	case term:
		return isCount(m.Term)
	case slot:
		return isCount(m.Slot)
	case last:
		return isCount(m.Last)
	case commit:
		return isCount(m.Commit)
	case yes:
		return true
	case list:
		return len(m.List) <= api.MaxList && all(m.List, termedMayBe)
	case entry:
		return entryMayBe(m.Entry)
	case part:
		return partMayBe(m.Part)
	}
	return false
}

// without is m with that field zero.
func without(m api.Msg, f field) api.Msg {
	switch f {
	case term:
		m.Term = 0
	case slot:
		m.Slot = 0
	case last:
		m.Last = 0
	case commit:
		m.Commit = 0
	case yes:
		m.Yes = false
	case list:
		m.List = nil
	case entry:
		m.Entry = api.Entry{}
	case part:
		m.Part = api.Part{}
	}
	return m
}
