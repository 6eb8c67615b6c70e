package code

import "trivet/api"

// giveUp is what reading and writing panic with: the error that the face answers.
type giveUp struct{ err api.Errno }

// caught is what do answers; or the error with which it gave up.
func caught[T any](do func() T) (v T, e api.Errno) {
	defer func() {
		x := recover()
		if g, ok := x.(giveUp); ok {
			e = g.err
		} else if x != nil {
			panic(x) // a fault of the program is not to pass as one of what it was given
		}
	}()
	return do(), api.OK
}

// must gives up with e, unless what it is told holds.
func must(holds bool, e api.Errno) {
	if !holds {
		panic(giveUp{e})
	}
}

// registers is how many registers an instruction names: with one it is A, with two A and B.
func registers(op int) int {
	switch op {
	case api.InHalt, api.InErase, api.InJump, api.InAbort:
		return 0
	case api.InConst, api.InArg, api.InLoad, api.InHas, api.InStore, api.InNarrow, api.InJumpIf, api.InOut:
		return 1
	}
	return 2
}

// wide is how many bytes an instruction's Imm has: those that its Op and its registers leave.
func wide(op int) int { return sizes[op] - 1 - registers(op) }

// read is the instruction at an address.
func read(b []byte, at int) api.Instr {
	must(at >= 0 && at < len(b), api.ErrCode)
	op := int(b[at])
	size, is := Size(op)
	must(is && size <= len(b)-at, api.ErrCode)
	body, n := b[at+1:at+size], registers(op)
	var named [2]int
	for i, r := range body[:n] {
		named[i] = int(r)
	}
	x := api.Instr{At: at, Op: op, A: named[0], B: named[1], Imm: number(op, body[n:])}
	must(sound(x), api.ErrIndex)
	return x
}

// number is an instruction's Imm of its bytes, the lower one first; InConst's alone has a sign.
func number(op int, b []byte) int64 {
	u := uint16(0)
	for i, v := range b {
		u |= uint16(v) << (8 * i)
	}
	if op == api.InConst {
		return int64(int16(u))
	}
	return int64(u)
}

// sound tells whether there are the registers that an instruction names, and the bits to which it cuts.
func sound(x api.Instr) bool {
	if x.Op == api.InNarrow && x.Imm != 8 && x.Imm != 16 && x.Imm != 32 {
		return false
	}
	return isRegister(x.A) && isRegister(x.B)
}

func isRegister(r int) bool { return r >= 0 && r < api.Registers }

// readAll is all instructions of a procedure. A jump may go onward, so its target is asked when all of them are read.
func readAll(b []byte) []api.Instr {
	must(len(b) <= api.MaxCode, api.ErrLong)
	var l []api.Instr
	var begins [api.MaxCode]bool
	for at := 0; at < len(b); at = behind(l[len(l)-1]) {
		l = append(l, read(b, at))
		begins[at] = true
	}
	for _, x := range l {
		must(!jumps(x) || x.Imm < api.MaxCode && begins[x.Imm], api.ErrTarget)
	}
	return l
}

// putAll is the instructions' bytes. It goes through all of them ahead of asking how many bytes they are, for one that may not be is told first.
func putAll(l ...api.Instr) []byte {
	var b []byte
	for _, x := range l {
		b = put(b, x)
	}
	must(len(b) <= api.MaxCode, api.ErrLong)
	return b
}

// put appends an instruction's bytes to those that are the caller's own.
func put(b []byte, x api.Instr) []byte {
	_, is := Size(x.Op)
	must(is && lean(x), api.ErrCode)
	must(sound(x), api.ErrIndex)
	must(fits(x), api.ErrCode)
	b = append(b, byte(x.Op))
	named := [...]int{x.A, x.B}
	for _, r := range named[:registers(x.Op)] {
		b = append(b, byte(r))
	}
	for i := range wide(x.Op) {
		b = append(b, byte(x.Imm>>(8*i)))
	}
	return b
}

// lean tells whether all that an instruction does not have is zero.
func lean(x api.Instr) bool {
	n := registers(x.Op)
	return (n > 0 || x.A == 0) && (n > 1 || x.B == 0) && (wide(x.Op) > 0 || x.Imm == 0)
}

// fits tells whether an instruction's bytes hold its Imm.
func fits(x api.Instr) bool {
	if x.Op == api.InConst {
		return x.Imm == int64(int16(x.Imm))
	}
	return x.Imm >= 0 && x.Imm < 1<<(8*wide(x.Op))
}
