package code_test

import (
	"maps"
	"math"
	"math/rand"
	"slices"
	"testing"

	"trivet/api"
	"trivet/code"
)

// layout is what stands behind each Op, by the chapter's table: A and B for a register, i for an Imm of one byte, j for one of two bytes, s for one of two with a sign.
func layout(op int) (string, bool) {
	l := []string{"", "As", "Ai", "Ai", "Ai", "Ai", "i", "AB", "AB", "AB", "AB", "AB", "AB", "AB", "AB", "AB", "AB", "AB", "AB", "Ai", "AB", "AB", "j", "Aj", "A", "i", "ABi", "ABi"}
	if op < 0 || op >= len(l) {
		return "", false
	}
	return l[op], true
}

// room is how many bytes each letter of a layout stands for.
var room = map[rune]int{'A': 1, 'B': 1, 'i': 1, 'j': 2, 's': 2}

// modelOne reads an instruction letter by letter.
func modelOne(b []byte, at int) (api.Instr, int, api.Errno) {
	if at < 0 || at >= len(b) {
		return api.Instr{}, 0, api.ErrCode
	}
	form, is := layout(int(b[at]))
	size := 1
	for _, c := range form {
		size += room[c]
	}
	if !is || at+size > len(b) {
		return api.Instr{}, 0, api.ErrCode
	}
	x, i := api.Instr{At: at, Op: int(b[at])}, at+1
	for _, c := range form {
		switch c {
		case 'A':
			x.A = int(b[i])
		case 'B':
			x.B = int(b[i])
		case 'i':
			x.Imm = int64(b[i])
		default:
			x.Imm = int64(b[i]) + 256*int64(b[i+1])
			if c == 's' && x.Imm > 32767 {
				x.Imm -= 65536
			}
		}
		i += room[c]
	}
	if x.A > 7 || x.B > 7 || x.Op == 19 && x.Imm != 8 && x.Imm != 16 && x.Imm != 32 {
		return api.Instr{}, 0, api.ErrIndex
	}
	return x, i, api.OK
}

// modelWalk is the instructions from the address 0 on, and the error at which it ended, if it did not at the end.
func modelWalk(b []byte) ([]api.Instr, api.Errno) {
	var l []api.Instr
	for at := 0; at < len(b); {
		x, next, e := modelOne(b, at)
		if e != api.OK {
			return l, e
		}
		l, at = append(l, x), next
	}
	return l, api.OK
}

func isJump(x api.Instr) bool { return x.Op == 22 || x.Op == 23 }

func modelDecode(b []byte) ([]api.Instr, api.Errno) {
	if len(b) > 512 {
		return nil, api.ErrLong
	}
	l, e := modelWalk(b)
	if e != api.OK {
		return nil, e
	}
	for _, x := range l {
		if isJump(x) && !slices.ContainsFunc(l, func(y api.Instr) bool { return int64(y.At) == x.Imm }) {
			return nil, api.ErrTarget
		}
	}
	return l, api.OK
}

// modelPut is an instruction's bytes, letter by letter.
func modelPut(x api.Instr) ([]byte, api.Errno) {
	form, is := layout(x.Op)
	has := map[rune]bool{}
	least, most := int64(0), int64(0)
	for _, c := range form {
		has[c] = true
		switch c {
		case 'i':
			most = 255
		case 'j':
			most = 65535
		case 's':
			least, most = -32768, 32767
		}
	}
	switch {
	case !is, !has['A'] && x.A != 0, !has['B'] && x.B != 0, most == 0 && x.Imm != 0:
		return nil, api.ErrCode
	case x.A < 0, x.A > 7, x.B < 0, x.B > 7, x.Op == 19 && x.Imm != 8 && x.Imm != 16 && x.Imm != 32:
		return nil, api.ErrIndex
	case x.Imm < least, x.Imm > most:
		return nil, api.ErrCode
	}
	b := []byte{byte(x.Op)}
	imm := (x.Imm + 65536) % 65536
	for _, c := range form {
		switch c {
		case 'A':
			b = append(b, byte(x.A))
		case 'B':
			b = append(b, byte(x.B))
		case 'i':
			b = append(b, byte(imm))
		default:
			b = append(b, byte(imm%256), byte(imm/256))
		}
	}
	return b, api.OK
}

func modelEncode(l []api.Instr) ([]byte, api.Errno) {
	var all []byte
	for _, x := range l {
		b, e := modelPut(x)
		if e != api.OK {
			return nil, e
		}
		all = append(all, b...)
	}
	if len(all) > 512 {
		return nil, api.ErrLong
	}
	return all, api.OK
}

func modelCheck(t api.Txn) api.Errno {
	if t.Session < 1 || t.Session > maxTime || t.Request < 1 || t.Request > maxTime {
		return api.ErrArg
	}
	if len(t.Args) > 8 || len(t.Reads) > 16 || len(t.Writes) > 16 {
		return api.ErrLong
	}
	for _, l := range [][]api.Key{t.Reads, t.Writes} {
		for i := range l {
			for _, k := range l[:i] {
				if k.Table > l[i].Table || k.Table == l[i].Table && k.Row >= l[i].Row {
					return api.ErrArg
				}
			}
		}
	}
	l, e := modelDecode(t.Code)
	if e != api.OK {
		return e
	}
	for _, x := range l {
		many := map[int]int{2: len(t.Args), 3: len(t.Reads), 4: len(t.Reads), 5: len(t.Writes), 6: len(t.Writes)}
		if n, names := many[x.Op]; names && x.Imm >= int64(n) {
			return api.ErrIndex
		}
	}
	return api.OK
}

// rises is the numbers of a set, rising.
func rises(set map[int]bool) []int { return slices.Sorted(maps.Keys(set)) }

func modelTargets(b []byte) []int {
	set := map[int]bool{}
	l, _ := modelWalk(b)
	for _, x := range l {
		if isJump(x) {
			set[int(x.Imm)] = true
		}
	}
	return rises(set)
}

// modelReach goes through all instructions again and again, till nothing is added any more.
func modelReach(b []byte) []int {
	l, e := modelDecode(b)
	if e != api.OK || len(l) == 0 {
		return nil
	}
	set := map[int]bool{0: true}
	for was := 0; was < len(set); {
		was = len(set)
		for i, x := range l {
			if !set[x.At] {
				continue
			}
			if isJump(x) {
				set[int(x.Imm)] = true
			}
			if x.Op != 0 && x.Op != 22 && x.Op != 25 && i+1 < len(l) {
				set[l[i+1].At] = true
			}
		}
	}
	return rises(set)
}

// agrees fails the test, unless all calls answer of these bytes what the chapter's words say.
func agrees(t *testing.T, b []byte) {
	t.Helper()
	for at := -1; at <= len(b)+1; at++ {
		x, next, e := modelOne(b, at)
		one(t, b, at, x, next, e)
	}
	l, e := modelDecode(b)
	decodes(t, b, l, e)
	w, _ := modelWalk(b)
	sameList(t, walked(t, b), w)
	sameList(t, code.Targets(b), modelTargets(b))
	sameList(t, code.Reach(b), modelReach(b))
	same(t, code.Check(api.Txn{Session: 1, Request: 1, Code: b, Args: make([]int64, 8), Reads: rising(16), Writes: rising(16)}),
		modelCheck(api.Txn{Session: 1, Request: 1, Code: b, Args: make([]int64, 8), Reads: rising(16), Writes: rising(16)}))
	if e == api.OK { // P13.4
		got, e := code.Encode(l...)
		same(t, e, api.OK)
		sameList(t, got, b)
		closed(t, b, l)
	}
}

// closed fails the test, unless Reach is within Decode's addresses, has the first one of them, and leads nowhere else.
func closed(t *testing.T, b []byte, l []api.Instr) {
	t.Helper()
	reach := code.Reach(b)
	if len(l) > 0 && (len(reach) == 0 || reach[0] != 0) {
		t.Error(b, reach, "without its beginning")
	}
	same(t, slices.IsSorted(reach), true)
	same(t, len(slices.Compact(slices.Clone(reach))), len(reach))
	known := map[int]bool{}
	for i, x := range l {
		known[x.At] = true
		if !slices.Contains(reach, x.At) {
			continue
		}
		if isJump(x) && !slices.Contains(reach, int(x.Imm)) {
			t.Error(b, reach, "without the target", x.Imm)
		}
		if x.Op != api.InHalt && x.Op != api.InJump && x.Op != api.InAbort && i+1 < len(l) && !slices.Contains(reach, l[i+1].At) {
			t.Error(b, reach, "without what is behind", x.At)
		}
	}
	for _, at := range reach {
		same(t, known[at], true)
	}
}

// drawn is an instruction that may be, jumping anywhere.
func drawn(r *rand.Rand) api.Instr {
	x := api.Instr{At: r.Intn(600) - 40, Op: r.Intn(28)}
	form, _ := layout(x.Op)
	for _, c := range form {
		switch c {
		case 'A':
			x.A = r.Intn(8)
		case 'B':
			x.B = r.Intn(8)
		case 'i':
			x.Imm = int64(r.Intn(256))
		case 'j':
			x.Imm = int64(r.Intn(65536))
		case 's':
			x.Imm = int64(r.Intn(65536) - 32768)
		}
	}
	if x.Op == api.InNarrow {
		x.Imm = 8 << r.Intn(3)
	}
	return x
}

// drawnCode is instructions whose jumps go to one another, each with its address, within MaxCode bytes.
func drawnCode(r *rand.Rand) []api.Instr {
	var l []api.Instr
	size, most := 0, []int{8, 40, 512}[r.Intn(3)]
	for {
		x := drawn(r)
		if r.Intn(3) == 0 {
			x = instr(22+r.Intn(2), 0, 0, 0)
		}
		n, _ := code.Size(x.Op)
		if size+n > most {
			break
		}
		x.At = size
		l, size = append(l, x), size+n
	}
	for i, x := range l {
		if isJump(x) {
			l[i].Imm = int64(l[r.Intn(len(l))].At)
		}
	}
	return l
}

// P13.1, P13.3, P13.4, P13.5: drawn code that is right: bytes and instructions are each other's, and Reach is as the words say.
func TestDrawnCode(t *testing.T) {
	r := rand.New(rand.NewSource(1))
	for range 2000 {
		l := drawnCode(r)
		b, e := code.Encode(l...)
		same(t, e, api.OK)
		want, _ := modelEncode(l)
		sameList(t, b, want)
		decodes(t, b, l, api.OK)
		agrees(t, b)
		if t.Failed() {
			t.Fatal(l)
		}
	}
}

// P13.1 to P13.5: drawn code with some bytes turned, cut off, put in or laid behind one another.
func TestDrawnSpoilt(t *testing.T) {
	r := rand.New(rand.NewSource(2))
	for range 5000 {
		b, _ := modelEncode(drawnCode(r))
		for range r.Intn(4) {
			at := r.Intn(len(b) + 1)
			switch r.Intn(4) {
			case 0:
				b = b[:at]
			case 1:
				b = slices.Insert(b, at, byte(r.Intn(30)))
			case 2:
				b = append(b, b[at:]...)
			case 3:
				if at < len(b) {
					b[at] = byte(r.Intn(256)) >> r.Intn(8)
				}
			}
		}
		agrees(t, b)
		if t.Failed() {
			t.Fatal(b)
		}
	}
}

// P13.1 to P13.5: drawn bytes, most of them small numbers, so that there are instructions among them.
func TestDrawnBytes(t *testing.T) {
	r := rand.New(rand.NewSource(3))
	for range 20000 {
		b := make([]byte, r.Intn(24))
		for i := range b {
			b[i] = byte(r.Intn([]int{2, 8, 9, 28, 30, 256}[r.Intn(6)]))
		}
		agrees(t, b)
		if t.Failed() {
			t.Fatal(b)
		}
	}
}

// P13.1: all code of up to three bytes out of those that count.
func TestShortCode(t *testing.T) {
	var few []byte
	for n := range 34 {
		few = append(few, byte(n))
	}
	few = append(few, 64, 127, 128, 255)
	for _, a := range few {
		agrees(t, []byte{a})
		for _, b := range few {
			agrees(t, []byte{a, b})
			for _, c := range few {
				agrees(t, []byte{a, b, c})
			}
		}
		if t.Failed() {
			t.Fatal(a)
		}
	}
}

// drawnInt is a number at an edge, or any at all.
func drawnInt(r *rand.Rand) int64 {
	if r.Intn(3) == 0 {
		return int64(r.Uint64()) >> r.Intn(64)
	}
	return []int64{math.MinInt64, -65537, -32769, -32768, -256, -1, 0, 1, 7, 8, 16, 28, 32, 255, 256, 32767, 32768, 65535, 65536, 1 << 32, math.MaxInt64}[r.Intn(21)]
}

// P13.1, P13.4: drawn instructions, some of whose fields may not be: their bytes, and which error is told.
func TestDrawnInstructions(t *testing.T) {
	r := rand.New(rand.NewSource(4))
	for range 50000 {
		var l []api.Instr
		for range r.Intn(5) {
			x := drawn(r)
			for range r.Intn(2) * r.Intn(3) {
				switch r.Intn(5) {
				case 0:
					x.Op = int(drawnInt(r))
				case 1:
					x.A = int(drawnInt(r))
				case 2:
					x.B = int(drawnInt(r))
				case 3:
					x.Imm = drawnInt(r)
				case 4:
					x.At = int(drawnInt(r))
				}
			}
			l = append(l, x)
		}
		if r.Intn(4) == 0 {
			l = slices.Concat(slices.Repeat([]api.Instr{drawn(r)}, 100+r.Intn(420)), l)
		}
		b, e := modelEncode(l)
		encodes(t, b, e, l...)
		if e == api.OK { // P13.4, without asking for targets
			got := walked(t, b)
			same(t, len(got), len(l))
			for i := range got {
				want := l[i]
				want.At = got[i].At
				same(t, got[i], want)
			}
		}
		if t.Failed() {
			t.Fatal(l)
		}
	}
}

// drawnKeys are keys, most times rising ones.
func drawnKeys(r *rand.Rand) []api.Key {
	l := rising(r.Intn(18))
	if len(l) > 1 && r.Intn(4) == 0 {
		l[r.Intn(len(l))] = l[r.Intn(len(l))]
	}
	if len(l) > 1 && r.Intn(4) == 0 {
		l[r.Intn(len(l))] = api.Key{Table: int32(r.Intn(3)), Row: drawnInt(r)}
	}
	return l
}

// P13.2: drawn transactions, of which each part may be wrong.
func TestDrawnTransactions(t *testing.T) {
	r := rand.New(rand.NewSource(5))
	told := map[api.Errno]int{}
	for range 50000 {
		x := api.Txn{Session: 1 + r.Int63n(maxTime), Request: 1 + r.Int63n(maxTime), Args: make([]int64, r.Intn(10)), Reads: drawnKeys(r), Writes: drawnKeys(r)}
		l := drawnCode(r)
		for i := range l {
			if l[i].Op >= api.InArg && l[i].Op <= api.InErase && r.Intn(20) > 0 {
				l[i].Imm %= 5
			}
		}
		x.Code, _ = modelEncode(l)
		switch r.Intn(12) {
		case 0:
			x.Session = drawnInt(r)
		case 1:
			x.Request = drawnInt(r)
		case 2:
			if len(x.Code) > 0 {
				x.Code[r.Intn(len(x.Code))]++
			}
		}
		e := modelCheck(x)
		told[e]++
		if got := code.Check(x); got != e {
			t.Fatal(x, got, e)
		}
	}
	for _, e := range []api.Errno{api.OK, api.ErrArg, api.ErrLong, api.ErrCode, api.ErrTarget, api.ErrIndex} {
		if told[e] < 50 {
			t.Error(e, "was told too seldom:", told[e])
		}
	}
}

// FuzzDecode: P13.1 to P13.5: of any bytes all calls say what the chapter's words do.
func FuzzDecode(f *testing.F) {
	f.Add([]byte{})
	f.Add([]byte{1, 2, 255, 255, 24, 2, 0})
	f.Add([]byte{api.InJump, 0, 0})
	f.Add([]byte{api.InJumpIf, 0, 5, 0, api.InHalt, api.InNarrow, 3, 8})
	f.Add([]byte{api.InLoadAt, 7, 6, 255, api.InStoreAt, 8, 0, 0})
	f.Add(halts(513))
	f.Fuzz(func(t *testing.T, b []byte) {
		if len(b) < 1<<11 {
			agrees(t, b)
		}
	})
}
