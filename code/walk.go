package code

import (
	"iter"
	"slices"

	"trivet/api"
)

// Walk goes through the instructions, with their addresses, up to the first that One refuses.
func Walk(b []byte) iter.Seq2[int, api.Instr] {
	b = slices.Clone(b) // for an iterator tells what was there when it was asked for
	return func(yield func(int, api.Instr) bool) {
		at := 0
		for {
			x, next, e := One(b, at)
			if e != api.OK || !yield(at, x) {
				return
			}
			at = next
		}
	}
}

// Targets are the addresses that jumps name, rising, each once, whether or not an instruction begins there.
func Targets(b []byte) []int {
	var l []int
	for _, x := range Walk(b) {
		if jumps(x) {
			l = append(l, int(x.Imm))
		}
	}
	slices.Sort(l)
	return slices.Compact(l)
}

// Reach is the addresses, rising, of the instructions that a run could come to.
func Reach(b []byte) []int {
	if _, e := Decode(b); e != api.OK {
		return nil
	}
	var come [api.MaxCode]bool
	for todo := []int{0}; len(todo) > 0; {
		at := todo[len(todo)-1]
		todo = todo[:len(todo)-1]
		if at == len(b) || come[at] { // behind the last instruction a run ends
			continue
		}
		come[at] = true
		x, _, _ := One(b, at)
		todo = append(todo, onward(x)...)
	}
	var l []int
	for at, is := range come {
		if is {
			l = append(l, at)
		}
	}
	return l
}

// onward is the addresses at which a run may go on behind an instruction.
func onward(x api.Instr) []int {
	switch x.Op {
	case api.InHalt, api.InAbort:
		return nil
	case api.InJump:
		return []int{int(x.Imm)}
	case api.InJumpIf:
		return []int{behind(x), int(x.Imm)}
	}
	return []int{behind(x)}
}
