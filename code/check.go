package code

import "trivet/api"

// Check tells whether a transaction may run.
func Check(t api.Txn) api.Errno {
	switch {
	case !isTime(t.Session) || !isTime(t.Request):
		return api.ErrArg
	case len(t.Args) > api.MaxArgs || len(t.Reads) > api.MaxKeys || len(t.Writes) > api.MaxKeys:
		return api.ErrLong
	case !rise(t.Reads) || !rise(t.Writes):
		return api.ErrArg
	}
	l, e := Decode(t.Code)
	if e != api.OK {
		return e
	}
	for _, x := range l {
		if !has(t, x) {
			return api.ErrIndex
		}
	}
	return api.OK
}

func isTime(n int64) bool { return n >= 1 && n <= api.MaxTime }

// rise tells whether each key is above the one ahead of it.
func rise(l []api.Key) bool {
	for i := 1; i < len(l); i++ {
		if !below(l[i-1], l[i]) {
			return false
		}
	}
	return true
}

// below tells whether a stands ahead of b.
func below(a, b api.Key) bool {
	return a.Table < b.Table || a.Table == b.Table && a.Row < b.Row
}

// has tells whether a transaction has the argument or the key that an instruction names by its number.
func has(t api.Txn, x api.Instr) bool {
	switch x.Op {
	case api.InArg:
		return x.Imm < int64(len(t.Args))
	case api.InLoad, api.InHas:
		return x.Imm < int64(len(t.Reads))
	case api.InStore, api.InErase:
		return x.Imm < int64(len(t.Writes))
	}
	return true
}
