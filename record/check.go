package record

import (
	"cmp"

	"trivet/api"
)

func verdict(mayBe bool) api.Errno {
	if mayBe {
		return api.OK
	}
	return api.ErrField
}

func isCount(n int64) bool { return n >= 0 && n <= api.MaxTime }

func isReplica(n int) bool { return n >= 0 && n < api.MaxReplicas }

func compareKeys(a, b api.Key) int {
	return cmp.Or(cmp.Compare(a.Table, b.Table), cmp.Compare(a.Row, b.Row))
}

func keysMayBe(l []api.Key) bool {
	if len(l) > api.MaxKeys {
		return false
	}
	for i := 1; i < len(l); i++ {
		if compareKeys(l[i-1], l[i]) >= 0 {
			return false
		}
	}
	return true
}

func txnMayBe(t api.Txn) bool {
	return isCount(t.Session) && t.Session > 0 &&
		isCount(t.Request) && t.Request > 0 &&
		len(t.Code) <= api.MaxCode &&
		len(t.Args) <= api.MaxArgs &&
		keysMayBe(t.Reads) && keysMayBe(t.Writes)
}

func entryMayBe(e api.Entry) bool {
	switch e.Kind {
	case api.EnNone:
		return SameEntry(e, api.Entry{})
	case api.EnBatch:
		return isReplica(e.From) && isCount(e.Number) &&
			len(e.Txns) >= 1 && len(e.Txns) <= api.MaxTxns && all(e.Txns, txnMayBe)
	}
	return false
}

func termedMayBe(t api.Termed) bool { return isCount(t.Term) && entryMayBe(t.Entry) }

func partMayBe(p api.Part) bool {
	return isCount(p.Slot) &&
		p.Many >= 1 && p.Many <= api.MaxList &&
		p.Index >= 0 && p.Index < p.Many &&
		len(p.Data) <= api.MaxData
}

// messageMayBe takes the fields that m's Kind has out of m: what is left is to be zero.
func messageMayBe(m api.Msg) bool {
	l := fieldsOf(m.Kind)
	if len(l) == 0 || !isReplica(m.From) || !isReplica(m.To) {
		return false
	}
	for _, f := range l {
		if !fieldMayBe(m, f) {
			return false
		}
		m = without(m, f)
	}
	return SameMsg(m, api.Msg{Kind: m.Kind, From: m.From, To: m.To})
}

// all tells whether each one of l may be.
func all[T any](l []T, mayBe func(T) bool) bool {
	for _, x := range l {
		if !mayBe(x) {
			return false
		}
	}
	return true
}
