package eval_test

import (
	"math"
	"math/rand"
	"slices"
	"testing"

	"trivet/api"
	"trivet/code"
	"trivet/eval"
)

func below(a, b api.Key) bool {
	return a.Table < b.Table || a.Table == b.Table && a.Row < b.Row
}

// modelChanges puts changes one by one to where they belong.
func modelChanges(l []api.Change) []api.Change {
	var out []api.Change
	for _, c := range l {
		i := 0
		for i < len(out) && below(out[i].Key, c.Key) {
			i++
		}
		if i == len(out) || out[i].Key != c.Key {
			out = slices.Insert(out, i, c)
		}
		out[i] = c
	}
	return out
}

// modelApply goes by what stands last for a key: a pair is a change that writes.
func modelApply(m []api.Pair, l []api.Change) []api.Pair {
	var all []api.Change
	for _, p := range m {
		all = append(all, put(p.Key, p.Value))
	}
	var out []api.Pair
	for _, c := range modelChanges(append(all, l...)) {
		if !c.Erase {
			out = append(out, pair(c.Key, c.Value))
		}
	}
	return out
}

// modelNeeds asks each pair of the map for its key among the Reads.
func modelNeeds(x api.Txn, m []api.Pair) []api.Pair {
	var out []api.Pair
	for _, p := range modelApply(m, nil) {
		for _, k := range x.Reads {
			if k == p.Key {
				out = append(out, p)
				break
			}
		}
	}
	return out
}

// model is a run by the chapter's words: its instructions are read where they stand, and what it wrote is a list.
type model struct {
	x      api.Txn
	values []api.Pair
	regs   [8]int64
	wrote  []api.Change
	told   []int64
}

// value is what a key has: what was written last, else what the map has, if it is one of the Reads.
func (m *model) value(k api.Key) (int64, int64) {
	for i := len(m.wrote) - 1; i >= 0; i-- {
		if c := m.wrote[i]; c.Key == k {
			return c.Value, 1 - truth(c.Erase)
		}
	}
	for i := len(m.values) - 1; i >= 0 && slices.Contains(m.x.Reads, k); i-- {
		if m.values[i].Key == k {
			return m.values[i].Value, 1
		}
	}
	return 0, 0
}

// do is an instruction: the address at which it goes on, and its end, if it has one (0 is none).
func (m *model) do(i api.Instr, next int) (int, int) {
	a, b, end := m.regs[i.A], m.regs[i.B], 0
	at := api.Key{Table: int32(i.Imm), Row: b}
	switch i.Op {
	case 1:
		a = i.Imm
	case 2:
		a = m.x.Args[i.Imm]
	case 3:
		a, _ = m.value(m.x.Reads[i.Imm])
	case 4:
		_, a = m.value(m.x.Reads[i.Imm])
	case 5:
		m.wrote = append(m.wrote, put(m.x.Writes[i.Imm], a))
	case 6:
		m.wrote = append(m.wrote, gone(m.x.Writes[i.Imm]))
	case 7:
		a = b
	case 19:
		a = modelNarrow(a, i.Imm)
	case 22:
		next = int(i.Imm)
	case 23:
		if a != 0 {
			next = int(i.Imm)
		}
	case 24:
		m.told = append(m.told, a)
		if len(m.told) > 8 {
			end = 5
		}
	case 25:
		end = 100 + int(i.Imm)
	case 26:
		if slices.Contains(m.x.Reads, at) {
			a, _ = m.value(at)
		} else {
			end = 4
		}
	case 27:
		m.wrote = append(m.wrote, put(at, a))
		if !slices.Contains(m.x.Writes, at) {
			end = 4
		}
	default:
		a, end = modelBinary(i.Op, a, b)
	}
	m.regs[i.A] = a
	return next, end
}

// modelRun is what a run comes to.
func modelRun(x api.Txn, values []api.Pair, fuel int) api.Outcome {
	if code.Check(x) != api.OK {
		return api.Outcome{End: 1}
	}
	m := &model{x: x, values: values}
	steps := 0
	for at := 0; at < len(x.Code); steps++ {
		if steps >= fuel || steps == 4096 {
			return api.Outcome{End: 2, Steps: steps}
		}
		i, next, _ := code.One(x.Code, at)
		if i.Op == 0 {
			steps++
			break
		}
		end := 0
		if at, end = m.do(i, next); end != 0 {
			return api.Outcome{End: end, Steps: steps + 1}
		}
	}
	return api.Outcome{Values: m.told, Changes: modelChanges(m.wrote), Steps: steps}
}

// drawnKey is a key out of few, most of which an instruction can name by its row.
func drawnKey(r *rand.Rand) api.Key {
	switch r.Intn(8) {
	case 0:
		l := rising()
		return l[r.Intn(len(l))]
	case 1:
		return key(int32(r.Uint32()), int64(r.Uint64()))
	}
	return key(int32(r.Intn(3)), int64(r.Intn(5)-2))
}

// drawnFoot is up to MaxKeys keys that rise.
func drawnFoot(r *rand.Rand) []api.Key {
	var l []api.Key
	for range r.Intn(17) {
		l = append(l, drawnKey(r))
	}
	slices.SortFunc(l, func(a, b api.Key) int { return int(truth(below(b, a)) - truth(below(a, b))) })
	return slices.Compact(l)
}

// drawnPairs are pairs in any order, some keys more often than once.
func drawnPairs(r *rand.Rand, most int) []api.Pair {
	var l []api.Pair
	for range r.Intn(most + 1) {
		l = append(l, pair(drawnKey(r), drawnInt(r)))
	}
	return l
}

// drawnChanges are changes in any order, some keys more often than once.
func drawnChanges(r *rand.Rand, most int) []api.Change {
	var l []api.Change
	for _, p := range drawnPairs(r, most) {
		c := put(p.Key, p.Value)
		if r.Intn(3) == 0 {
			c = gone(p.Key)
		}
		l = append(l, c)
	}
	return l
}

// drawnInstr is an instruction out of some ops, whose Imm is, most times, one that the transaction has.
func drawnInstr(r *rand.Rand, x api.Txn, ops []int) api.Instr {
	i := instr(ops[r.Intn(len(ops))], 0, 0, 0)
	many := 0
	switch i.Op {
	case api.InConst:
		i.Imm = int64(r.Intn(5) - 2)
		if r.Intn(4) == 0 {
			i.Imm = int64(int16(r.Uint32()))
		}
	case api.InArg:
		many = len(x.Args)
	case api.InLoad, api.InHas:
		many = len(x.Reads)
	case api.InStore, api.InErase:
		many = len(x.Writes)
	case api.InNarrow:
		i.Imm = 8 << r.Intn(3)
	case api.InAbort:
		i.Imm = int64(r.Intn(256))
	case api.InLoadAt, api.InStoreAt:
		i.Imm = int64(r.Intn(3))
	}
	if many > 0 {
		i.Imm = int64(r.Intn(many))
	} else if i.Op >= api.InArg && i.Op <= api.InErase {
		return drawnInstr(r, x, append(slices.Clone(ops), api.InMove)) // there is nothing that it could name
	}
	if i.Op != api.InHalt && i.Op != api.InErase && i.Op != api.InJump && i.Op != api.InAbort {
		i.A = r.Intn(8)
	}
	if i.Op >= api.InMove && i.Op <= api.InEqual && i.Op != api.InNarrow || i.Op >= api.InLoadAt {
		i.B = r.Intn(8)
	}
	return i
}

// drawnOps are the ops of one procedure: not all of them, or none would come far.
func drawnOps(r *rand.Rand) []int {
	l := []int{api.InConst, api.InMove, api.InStore, api.InOut}
	for op := api.InArg; op <= api.InStoreAt; op++ {
		rare := op == api.InDiv || op == api.InMod || op == api.InJump || op == api.InAbort || op >= api.InLoadAt
		if r.Intn(2) == 0 && (!rare || r.Intn(3) == 0) {
			l = append(l, op)
		}
	}
	if r.Intn(6) == 0 {
		l = append(l, api.InHalt)
	}
	return l
}

// drawnTxn is a transaction that may run.
func drawnTxn(r *rand.Rand) api.Txn {
	x := api.Txn{Session: 1 + r.Int63n(maxTime), Request: 1 + r.Int63n(maxTime), Reads: drawnFoot(r), Writes: drawnFoot(r)}
	if r.Intn(3) == 0 {
		x.Writes = x.Reads
	}
	for range r.Intn(9) {
		x.Args = append(x.Args, []int64{drawnInt(r), int64(r.Intn(5) - 2)}[r.Intn(2)])
	}
	ops := drawnOps(r)
	var l []api.Instr
	size, most := 0, []int{0, 20, 40, 60, 80, 120, 200, 512}[r.Intn(8)]
	for {
		i := drawnInstr(r, x, ops)
		n, _ := code.Size(i.Op)
		if size+n > most {
			break
		}
		i.At = size
		l, size = append(l, i), size+n
	}
	for i := range l {
		if l[i].Op == api.InJump || l[i].Op == api.InJumpIf {
			l[i].Imm = int64(l[r.Intn(len(l))].At)
		}
	}
	x.Code, _ = code.Encode(l...)
	return x
}

// drawnFuel is any fuel, most times a small one or the greatest.
func drawnFuel(r *rand.Rand) int {
	return []int{maxFuel, maxFuel, r.Intn(100), r.Intn(maxFuel + 2), -r.Intn(5), math.MaxInt, math.MinInt}[r.Intn(7)]
}

// P14.1, P14.3: drawn transactions, values and fuels: Run comes to what the chapter's words say, twice the same.
func TestDrawnRuns(t *testing.T) {
	r := rand.New(rand.NewSource(2))
	told := map[int]int{}
	values, changes := 0, 0
	for range 20000 {
		x, m, fuel := drawnTxn(r), drawnPairs(r, 20), drawnFuel(r)
		if code.Check(x) != api.OK {
			t.Fatal(x)
		}
		want := modelRun(x, m, fuel)
		for range 2 {
			if got := eval.Run(x, m, fuel); !isOutcome(got, want) || !eval.Same(got, want) {
				t.Fatalf("%+v, of %v, with %d: %+v, not %+v", x, m, fuel, got, want)
			}
		}
		told[min(want.End, api.EndAbort)]++
		values, changes = values+len(want.Values), changes+len(want.Changes)
	}
	for _, end := range []int{api.EndOK, api.EndFuel, api.EndZero, api.EndFoot, api.EndOut, api.EndAbort} {
		if told[end] < 500 {
			t.Error(end, "was told too seldom:", told)
		}
	}
	if values < 5000 || changes < 5000 {
		t.Error("too few values or changes:", values, changes)
	}
}

// P14.1: drawn transactions with one thing in them spoilt: what Check refuses has EndCode, all else runs as the words say.
func TestDrawnSpoilt(t *testing.T) {
	r := rand.New(rand.NewSource(3))
	refused := 0
	for range 20000 {
		x, m := drawnTxn(r), drawnPairs(r, 8)
		switch r.Intn(8) {
		case 0:
			x.Session = drawnInt(r)
		case 1:
			x.Request = drawnInt(r)
		case 2:
			x.Args = x.Args[:r.Intn(len(x.Args)+1)]
		case 3:
			x.Reads = x.Reads[:r.Intn(len(x.Reads)+1)]
		case 4:
			x.Writes = x.Writes[:r.Intn(len(x.Writes)+1)]
		case 5:
			x.Reads = append(slices.Clone(x.Reads), drawnKey(r))
		default:
			if len(x.Code) > 0 {
				x.Code[r.Intn(len(x.Code))] = byte(r.Intn(30))
			}
		}
		refused += int(truth(code.Check(x) != api.OK))
		if got, want := eval.Run(x, m, 300), modelRun(x, m, 300); !isOutcome(got, want) {
			t.Fatalf("%+v, of %v: %+v, not %+v", x, m, got, want)
		}
	}
	if refused < 2000 || refused > 18000 {
		t.Error(refused)
	}
}

// P14.4: Steps is at most the fuel, and MaxFuel; each fuel that is enough comes to the same, and each other one to just itself.
func TestFuelIsNoMatter(t *testing.T) {
	r := rand.New(rand.NewSource(4))
	for range 1500 {
		x, m := drawnTxn(r), drawnPairs(r, 20)
		whole := eval.Run(x, m, maxFuel)
		if whole.Steps > maxFuel {
			t.Fatal(whole)
		}
		for range 20 {
			fuel := []int{drawnFuel(r), r.Intn(whole.Steps + 2), whole.Steps, whole.Steps - 1, whole.Steps + 1}[r.Intn(5)]
			want := whole
			if max(fuel, 0) < whole.Steps {
				want = api.Outcome{End: api.EndFuel, Steps: max(fuel, 0)}
			}
			if got := eval.Run(x, m, fuel); !isOutcome(got, want) {
				t.Fatalf("%+v, of %v, with %d: %+v, not %+v", x, m, fuel, got, want)
			}
		}
	}
}

// P14.5: a run goes by the values of its Reads alone, in whatever order they come, and changes none but its Writes.
func TestWithinItsFootprint(t *testing.T) {
	r := rand.New(rand.NewSource(5))
	for range 10000 {
		x, m := drawnTxn(r), drawnPairs(r, 20)
		want := eval.Run(x, m, maxFuel)
		for _, c := range want.Changes {
			same(t, slices.Contains(x.Writes, c.Key), true)
		}
		other := modelNeeds(x, m)
		runs(t, x, other, maxFuel, want)
		for _, p := range drawnPairs(r, 20) {
			if !slices.Contains(x.Reads, p.Key) {
				other = append(other, p)
			}
		}
		for _, k := range x.Writes {
			if !slices.Contains(x.Reads, k) {
				other = append(other, pair(k, drawnInt(r)))
			}
		}
		r.Shuffle(len(other), func(i, j int) { other[i], other[j] = other[j], other[i] })
		runs(t, x, other, maxFuel, want)
		runs(t, x, eval.Needs(x, m), maxFuel, want)
		if t.Failed() {
			t.Fatal(x, m)
		}
	}
}

// P14.6: Changes of an outcome, applied, give the Writes what they say and leave all other keys as they are; applied twice, once.
func TestAppliedTwiceIsOnce(t *testing.T) {
	r := rand.New(rand.NewSource(6))
	changed := 0
	for range 10000 {
		x, m := drawnTxn(r), modelApply(drawnPairs(r, 20), nil)
		o := eval.Run(x, m, maxFuel)
		changed += len(o.Changes)
		behind := eval.Apply(m, o.Changes...)
		sameList(t, eval.Apply(behind, o.Changes...), behind)
		sameList(t, eval.Apply(m, append(slices.Clone(o.Changes), o.Changes...)...), behind)
		at := map[api.Key]api.Change{}
		for _, c := range o.Changes {
			at[c.Key] = c
		}
		for _, p := range m {
			if _, is := at[p.Key]; !is {
				same(t, slices.Contains(behind, p), true)
			}
		}
		for _, p := range behind {
			if c, is := at[p.Key]; is {
				same(t, c, put(p.Key, p.Value))
			} else {
				same(t, slices.Contains(m, p), true)
			}
		}
		for _, c := range o.Changes {
			same(t, slices.Contains(behind, pair(c.Key, c.Value)), !c.Erase)
		}
		if t.Failed() {
			t.Fatal(x, m, o)
		}
	}
	if changed < 5000 {
		t.Error("too few changes:", changed)
	}
}

// P14.3: drawn lists of changes and of pairs: what Changes, Apply and Needs say of them, twice the same.
func TestDrawnMaps(t *testing.T) {
	for seed := range int64(5000) {
		r := rand.New(rand.NewSource(seed))
		m, l, x := drawnPairs(r, 40), drawnChanges(r, 40), api.Txn{Reads: drawnFoot(r), Writes: drawnFoot(r)}
		for range 2 {
			if got, want := eval.Changes(l...), modelChanges(l); !slices.Equal(got, want) {
				t.Fatal(seed, got, want)
			}
			if got, want := eval.Apply(m, l...), modelApply(m, l); !slices.Equal(got, want) {
				t.Fatal(seed, got, want)
			}
			if got, want := eval.Needs(x, m), modelNeeds(x, m); !slices.Equal(got, want) {
				t.Fatal(seed, got, want)
			}
		}
		sameList(t, eval.Apply(m, eval.Changes(l...)...), eval.Apply(m, l...))
	}
}

// P14.3: drawn outcomes: those that differ in a field are not the same, others are.
func TestDrawnSame(t *testing.T) {
	r := rand.New(rand.NewSource(7))
	drawn := func() api.Outcome {
		o := api.Outcome{End: r.Intn(2), Steps: r.Intn(2), Values: make([]int64, r.Intn(2))}
		for range r.Intn(3) {
			o.Changes = append(o.Changes, api.Change{Key: key(int32(r.Intn(2)), int64(r.Intn(2))), Value: int64(r.Intn(2)), Erase: r.Intn(2) == 0})
		}
		return o
	}
	alike := 0
	for range 50000 {
		x, y := drawn(), drawn()
		isSame(t, x, y, isOutcome(x, y))
		alike += int(truth(isOutcome(x, y)))
	}
	if alike < 500 {
		t.Error(alike)
	}
}

// FuzzRun: P14.1, P14.4: of any code Run comes to what the chapter's words say.
func FuzzRun(f *testing.F) {
	f.Add([]byte{1, 0, 7, 0, 5, 0, 0, 3, 1, 0, 24, 1}, int64(0), int64(0), 9)
	f.Add([]byte{2, 0, 0, 2, 1, 1, 8, 0, 1, 24, 0, 23, 0, 0, 0}, int64(-5), int64(1), maxFuel)
	f.Add([]byte{2, 1, 0, 26, 0, 1, 0, 6, 1, 4, 2, 0, 27, 2, 1, 0}, int64(2), int64(1), 6)
	f.Add([]byte{22, 0, 0}, int64(0), int64(0), math.MaxInt)
	f.Fuzz(func(t *testing.T, b []byte, n, k int64, fuel int) {
		l := keys(key(0, min(n, k)), key(1, 0), key(1, 1), key(2, max(n, k)))
		x := api.Txn{Session: 1, Request: 1, Code: b, Args: numbers(n, k), Reads: l[:3], Writes: l[1:]}
		m := pairs(pair(l[0], k), pair(l[1], n), pair(l[3], 4))
		runs(t, x, m, fuel, modelRun(x, m, fuel))
	})
}
