package eval

import (
	"trivet/api"
	"trivet/code"
	"trivet/shard"
)

// run is a procedure while it runs.
type run struct {
	txn       api.Txn
	list      []api.Instr
	place     [api.MaxCode]int // in list, of the instruction that begins at an address
	next      int              // in list, too
	steps     int
	registers [api.Registers]int64
	read      map[api.Key]int64 // of the Reads alone
	written   map[api.Key]api.Change
	answers   []int64
}

// begin is the run, at its beginning, of a transaction that may run.
func begin(t api.Txn, values []api.Pair) *run {
	r := &run{txn: t, read: byKey(Needs(t, values)), written: map[api.Key]api.Change{}}
	r.list, _ = code.Decode(t.Code)
	for i, x := range r.list {
		r.place[x.At] = i
	}
	return r
}

// goOn runs instructions up to the end that it answers.
func (r *run) goOn(fuel int) int {
	for r.next < len(r.list) {
		if r.steps == fuel {
			return api.EndFuel
		}
		x := r.list[r.next]
		r.steps++
		r.next++
		if end := r.do(x); end != api.EndOK {
			return end
		}
	}
	return api.EndOK
}

// do is what an instruction does, and the end that it brings about; EndOK, if the run goes on. B is taken first, for A may be the same register.
func (r *run) do(x api.Instr) int {
	a, b := &r.registers[x.A], r.registers[x.B]
	switch x.Op {
	case api.InHalt:
		r.next = len(r.list)
	case api.InConst:
		*a = x.Imm
	case api.InArg:
		*a = r.txn.Args[x.Imm]
	case api.InMove:
		*a = b
	case api.InLoad:
		*a, _ = r.value(r.txn.Reads[x.Imm])
	case api.InHas:
		_, has := r.value(r.txn.Reads[x.Imm])
		*a = flag(has)
	case api.InStore:
		r.write(api.Change{Key: r.txn.Writes[x.Imm], Value: *a})
	case api.InErase:
		r.write(api.Change{Key: r.txn.Writes[x.Imm], Erase: true})
	case api.InNarrow:
		*a = Narrow(*a, x.Imm)
	case api.InJump:
		r.next = r.place[x.Imm]
	case api.InJumpIf:
		if *a != 0 {
			r.next = r.place[x.Imm]
		}
	case api.InOut:
		return r.answer(*a)
	case api.InAbort:
		return api.EndAbort + int(x.Imm)
	case api.InLoadAt:
		k := api.Key{Table: int32(x.Imm), Row: b}
		if !shard.Has(r.txn.Reads, k) {
			return api.EndFoot
		}
		*a, _ = r.value(k)
	case api.InStoreAt:
		k := api.Key{Table: int32(x.Imm), Row: b}
		if !shard.Has(r.txn.Writes, k) {
			return api.EndFoot
		}
		r.write(api.Change{Key: k, Value: *a})
	default:
		v, end := Binary(x.Op, *a, b)
		*a = v
		return end
	}
	return api.EndOK
}

// value is what a key has by now, 0 if it has none, and whether it has any.
func (r *run) value(k api.Key) (int64, bool) {
	if c, is := r.written[k]; is {
		return c.Value, !c.Erase
	}
	v, has := r.read[k]
	return v, has
}

func (r *run) write(c api.Change) { r.written[c.Key] = c }

func (r *run) answer(v int64) int {
	if len(r.answers) == api.MaxOut {
		return api.EndOut
	}
	r.answers = append(r.answers, v)
	return api.EndOK
}
