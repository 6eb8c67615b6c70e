package code_test

import (
	"math"
	"slices"
	"testing"

	"trivet/api"
	"trivet/code"
)

const maxTime = 1 << 40

// rising is so many keys that rise, over several tables, at all edges of tables and rows that n has room for.
func rising(n int) []api.Key {
	l := []api.Key{{Table: math.MinInt32, Row: math.MinInt64}, {Table: math.MinInt32, Row: math.MaxInt64}, {Table: -1, Row: 5}, {Row: -1}, {}, {Row: 1}, {Table: 1, Row: math.MinInt64}, {Table: 1, Row: -7}}
	for row := range int64(100) {
		l = append(l, api.Key{Table: 2, Row: row})
	}
	return l[:n:n]
}

// txn is a transaction that may run.
func txn() api.Txn {
	return api.Txn{Session: 1, Request: 1, Code: []byte{api.InHalt}, Args: []int64{1, -1}, Reads: rising(3), Writes: rising(2)}
}

// checks fails the test, unless that is Check's answer of the transaction that do makes of a good one.
func checks(t *testing.T, e api.Errno, do func(x *api.Txn)) {
	t.Helper()
	x := txn()
	do(&x)
	if got := code.Check(x); got != e {
		t.Errorf("Check(%v): %d, not %d", x, got, e)
	}
}

// P13.2, R4: transactions that may run, the least one among them; empty lists and none are the same.
func TestCheckGood(t *testing.T) {
	checks(t, api.OK, func(x *api.Txn) {})
	checks(t, api.OK, func(x *api.Txn) { *x = api.Txn{Session: 1, Request: 1} })
	checks(t, api.OK, func(x *api.Txn) {
		*x = api.Txn{Session: 1, Request: 1, Code: []byte{}, Args: []int64{}, Reads: []api.Key{}, Writes: []api.Key{}}
	})
	same(t, code.Check(api.Txn{}), api.ErrArg)
}

// P13.2: Session and Request are from 1 to MaxTime.
func TestCheckTimes(t *testing.T) {
	for n, e := range map[int64]api.Errno{
		math.MinInt64: api.ErrArg, -maxTime: api.ErrArg, -1: api.ErrArg, 0: api.ErrArg,
		1: api.OK, 2: api.OK, api.MaxSessions: api.OK, api.MaxSessions + 1: api.OK, 1 << 32: api.OK, maxTime - 1: api.OK, maxTime: api.OK,
		maxTime + 1: api.ErrArg, 2 * maxTime: api.ErrArg, math.MaxInt64: api.ErrArg,
	} {
		checks(t, e, func(x *api.Txn) { x.Session = n })
		checks(t, e, func(x *api.Txn) { x.Request = n })
		checks(t, e, func(x *api.Txn) { x.Session, x.Request = n, n })
		checks(t, e, func(x *api.Txn) { x.Session, x.Request = maxTime, n })
		checks(t, e, func(x *api.Txn) { x.Session, x.Request = n, maxTime })
		checks(t, api.ErrArg, func(x *api.Txn) { x.Session, x.Request = 0, n })
		checks(t, api.ErrArg, func(x *api.Txn) { x.Session, x.Request = n, 0 })
	}
}

// P13.2: MaxArgs arguments, MaxKeys Reads and Writes, and one more of each.
func TestCheckLong(t *testing.T) {
	for n := range 40 {
		arg, key := api.OK, api.OK
		if n > 8 {
			arg = api.ErrLong
		}
		if n > 16 {
			key = api.ErrLong
		}
		checks(t, arg, func(x *api.Txn) { x.Args = make([]int64, n) })
		checks(t, key, func(x *api.Txn) { x.Reads = rising(n) })
		checks(t, key, func(x *api.Txn) { x.Writes = rising(n) })
	}
	checks(t, api.OK, func(x *api.Txn) { x.Args, x.Reads, x.Writes = make([]int64, 8), rising(16), rising(16) })
}

// fallings are lists of keys that do not rise.
func fallings() [][]api.Key {
	r := rising(16)
	l := [][]api.Key{
		{{}, {}},
		{{Row: 1}, {}},
		{{Table: 1}, {}},
		{{Table: 1, Row: 1}, {Table: 1}},
		{{Table: 1, Row: -9}, {Row: 9}},
		{{Table: 1, Row: 9}, {Row: 9}},
		{{}, {Table: -1, Row: 5}},
		{{Row: math.MaxInt64}, {Row: math.MinInt64}},
		{{Table: math.MaxInt32}, {Table: math.MinInt32}},
		{{Table: math.MaxInt32, Row: math.MaxInt64}, {Table: math.MaxInt32, Row: math.MaxInt64}},
		{{}, {Row: 2}, {Row: 1}},
		{{}, {Row: 1}, {}},
		{{}, {Row: 1}, {Row: 1}},
		{{Row: 1}, {}, {Row: 2}},
	}
	for i := range 15 { // two neighbours in each other's place; one of them twice
		turned, twice := slices.Clone(r), slices.Clone(r)
		turned[i], turned[i+1] = r[i+1], r[i]
		twice[i+1] = r[i]
		l = append(l, turned, twice)
	}
	return l
}

// P13.2: the Reads' and the Writes' keys rise; nobody asks whether one is among both.
func TestCheckOrder(t *testing.T) {
	for _, l := range fallings() {
		checks(t, api.ErrArg, func(x *api.Txn) { x.Reads = l })
		checks(t, api.ErrArg, func(x *api.Txn) { x.Writes = l })
		checks(t, api.ErrArg, func(x *api.Txn) { x.Reads, x.Writes = l, l })
		checks(t, api.ErrArg, func(x *api.Txn) { x.Reads, x.Writes = nil, l })
		checks(t, api.ErrArg, func(x *api.Txn) { x.Reads, x.Writes = l, nil })
	}
	for n := range 17 {
		checks(t, api.OK, func(x *api.Txn) { x.Reads, x.Writes = rising(n), rising(16-n) })
	}
	for _, l := range [][]api.Key{{{Row: 5}, {Table: 1, Row: 4}}, {{Table: -1, Row: 9}, {Row: -9}}, {{Row: math.MinInt64}, {Row: math.MaxInt64}}, {{Table: math.MinInt32, Row: 1}, {Table: math.MaxInt32}}} {
		checks(t, api.OK, func(x *api.Txn) { x.Reads, x.Writes = l, l })
	}
	checks(t, api.OK, func(x *api.Txn) { x.Reads, x.Writes = []api.Key{{Row: 9}}, []api.Key{{Row: 1}} })
}

// P13.2: Code that Decode refuses, with Decode's error.
func TestCheckCode(t *testing.T) {
	for _, c := range []struct {
		b []byte
		e api.Errno
	}{
		{halts(512), api.OK},
		{halts(513), api.ErrLong},
		{[]byte{28}, api.ErrCode},
		{[]byte{api.InConst, 0}, api.ErrCode},
		{[]byte{api.InOut, 8}, api.ErrIndex},
		{[]byte{api.InNarrow, 0, 7}, api.ErrIndex},
		{[]byte{api.InJump, 1, 0}, api.ErrTarget},
		{[]byte{api.InJump, 3, 0}, api.ErrTarget},
		{[]byte{api.InJump, 0, 0}, api.OK},
		{[]byte{api.InHalt, api.InJump, 0, 0, 255}, api.ErrCode},
	} {
		checks(t, c.e, func(x *api.Txn) { x.Code = c.b })
	}
}

// lists make that list of a transaction so long which an instruction names by its Imm.
var lists = map[int]func(x *api.Txn, n int){
	api.InArg:   func(x *api.Txn, n int) { x.Args = make([]int64, n) },
	api.InLoad:  func(x *api.Txn, n int) { x.Reads = rising(n) },
	api.InHas:   func(x *api.Txn, n int) { x.Reads = rising(n) },
	api.InStore: func(x *api.Txn, n int) { x.Writes = rising(n) },
	api.InErase: func(x *api.Txn, n int) { x.Writes = rising(n) },
}

// P13.2: each instruction that names an argument or a key, at the edge of their number, at it and far off, the other lists being as long as may be, or not there.
func TestCheckNames(t *testing.T) {
	for op, sized := range lists {
		for n := range 17 {
			if op == api.InArg && n > 8 {
				continue
			}
			for _, imm := range []int{0, 1, n - 2, n - 1, n, n + 1, 15, 16, 17, 127, 128, 255} {
				if imm < 0 {
					continue
				}
				e := api.ErrIndex
				if imm < n {
					e = api.OK
				}
				b := encoded(t, instr(op, 0, 0, int64(imm)))
				checks(t, e, func(x *api.Txn) {
					*x = api.Txn{Session: 1, Request: 1, Code: b, Args: make([]int64, 8), Reads: rising(16), Writes: rising(16)}
					sized(x, n)
				})
				checks(t, e, func(x *api.Txn) {
					*x = api.Txn{Session: 1, Request: 1, Code: b}
					sized(x, n)
				})
			}
		}
	}
}

// encoded fails the test, unless Encode takes the instructions.
func encoded(t *testing.T, l ...api.Instr) []byte {
	t.Helper()
	b, e := code.Encode(l...)
	same(t, e, api.OK)
	return b
}

// P13.2: the other instructions' Imm is nothing that a transaction has to have.
func TestCheckOtherImm(t *testing.T) {
	for _, f := range forms() {
		if lists[f.x.Op] != nil {
			continue
		}
		f.x.Imm, f.x.At = min(f.x.Imm, 255), 0
		if f.x.Op == api.InJump || f.x.Op == api.InJumpIf {
			f.x.Imm = 200
		}
		b := append(encoded(t, f.x), halts(300)...)
		checks(t, api.OK, func(x *api.Txn) { *x = api.Txn{Session: 1, Request: 1, Code: b} })
	}
}

// P13.2: each instruction is asked, also one that no run comes to; what a key is named by is not a register.
func TestCheckEachInstruction(t *testing.T) {
	load, bad := []byte{api.InLoad, 7, 2}, []byte{api.InLoad, 0, 3}
	for at := range 4 {
		l := [][]byte{load, load, load, load}
		checks(t, api.OK, func(x *api.Txn) { x.Code = slices.Concat(l...) })
		l[at] = bad
		checks(t, api.ErrIndex, func(x *api.Txn) { x.Code = slices.Concat(l...) })
	}
	checks(t, api.ErrIndex, func(x *api.Txn) { x.Code = append([]byte{api.InHalt}, bad...) })
	checks(t, api.ErrIndex, func(x *api.Txn) { x.Code = append([]byte{api.InJump, 0, 0}, bad...) })
}

// P13.2, R2: which error is told where several apply: each one ahead of all that the chapter names behind it.
func TestCheckFirstError(t *testing.T) {
	faults := []struct {
		e  api.Errno
		do []func(x *api.Txn)
	}{
		{api.ErrArg, []func(x *api.Txn){
			func(x *api.Txn) { x.Session = 0 },
			func(x *api.Txn) { x.Request = maxTime + 1 },
		}},
		{api.ErrLong, []func(x *api.Txn){
			func(x *api.Txn) { x.Args = make([]int64, 9) },
			func(x *api.Txn) { x.Reads = append(x.Reads, rising(17)...) },
			func(x *api.Txn) { x.Writes = append(x.Writes, rising(17)...) },
		}},
		{api.ErrArg, []func(x *api.Txn){
			func(x *api.Txn) { x.Reads = append([]api.Key{{}, {}}, x.Reads...) },
			func(x *api.Txn) { x.Writes = append([]api.Key{{Row: 1}, {}}, x.Writes...) },
		}},
		{api.ErrCode, []func(x *api.Txn){func(x *api.Txn) { x.Code = append(slices.Clone(x.Code), 28) }}},
		{api.ErrTarget, []func(x *api.Txn){func(x *api.Txn) { x.Code = append([]byte{api.InJump, 1, 0}, x.Code...) }}},
		{api.ErrIndex, []func(x *api.Txn){
			func(x *api.Txn) { x.Code = append([]byte{api.InArg, 0, 250}, x.Code...) },
			func(x *api.Txn) { x.Code = append([]byte{api.InLoad, 0, 250}, x.Code...) },
			func(x *api.Txn) { x.Code = append([]byte{api.InErase, 250}, x.Code...) },
		}},
	}
	for i, first := range faults {
		for _, a := range first.do {
			checks(t, first.e, a)
			for _, next := range faults[i:] {
				for _, b := range next.do {
					checks(t, first.e, func(x *api.Txn) { a(x); b(x) })
					checks(t, first.e, func(x *api.Txn) { b(x); a(x) })
				}
			}
		}
	}
	checks(t, api.ErrLong, func(x *api.Txn) { x.Code, x.Args = halts(513), nil })
	checks(t, api.ErrArg, func(x *api.Txn) { x.Code, x.Writes = halts(513), []api.Key{{}, {}} })
}
