package skip_test

import (
	"bytes"
	"maps"
	"math"
	"math/rand"
	"slices"
	"testing"

	"trivet/api"
	"trivet/shape"
	"trivet/skip"
)

// model is what the chapter says, word by word: a plain map of keys, their heights, and x, bit by bit, the lowest one first.
type model struct {
	cells  map[api.Key]api.Cell
	height map[api.Key]int
	x      [64]bool
}

func modelOf(seed uint64) *model {
	m := &model{cells: map[api.Key]api.Cell{}, height: map[api.Key]int{}}
	for i := range 64 {
		m.x[i] = seed%2 == 1
		seed /= 2
	}
	return m
}

func (m *model) clone() *model {
	return &model{maps.Clone(m.cells), maps.Clone(m.height), m.x}
}

// draw is the next height.
func (m *model) draw() int {
	for _, by := range []int{13, -7, 17} { // to the left, or to the right, if it is below 0
		was := m.x
		for i := range 64 {
			if j := i - by; j >= 0 && j < 64 && was[j] {
				m.x[i] = !was[i]
			}
		}
	}
	set := 0
	for set < 64 && m.x[set] {
		set++
	}
	return min(set+1, 8)
}

func (m *model) put(c api.Cell) api.Errno {
	if c.Slot < 0 || c.Slot > 1<<40 {
		return api.ErrArg
	}
	if _, ok := m.cells[c.Key]; !ok {
		m.height[c.Key] = m.draw()
	}
	m.cells[c.Key] = c
	return api.OK
}

func (m *model) erase(k api.Key) api.Errno {
	if _, ok := m.cells[k]; !ok {
		return api.ErrNone
	}
	delete(m.cells, k)
	delete(m.height, k)
	return api.OK
}

func less(a, b api.Key) bool {
	if a.Table != b.Table {
		return a.Table < b.Table
	}
	return a.Row < b.Row
}

func byKey(a, b api.Cell) int {
	switch {
	case less(a.Key, b.Key):
		return -1
	case less(b.Key, a.Key):
		return 1
	}
	return 0
}

// list is all cells, rising.
func (m *model) list() []api.Cell { return slices.SortedFunc(maps.Values(m.cells), byKey) }

// level is the keys whose height is above n, rising; n is one of the levels.
func (m *model) level(n int) []api.Key {
	var l []api.Key
	for _, c := range m.list() {
		if m.height[c.Key] > n {
			l = append(l, c.Key)
		}
	}
	return l
}

func (m *model) between(from, to api.Key) []api.Cell {
	var l []api.Cell
	for _, c := range m.list() {
		if !less(c.Key, from) && less(c.Key, to) {
			l = append(l, c)
		}
	}
	return l
}

func (m *model) from(k api.Key) []api.Cell {
	return slices.DeleteFunc(m.list(), func(c api.Cell) bool { return less(c.Key, k) })
}

// steps is how many keys a search looks at: behind is the key behind which it is, if any.
func (m *model) steps(k api.Key) int {
	var behind *api.Key
	n := 0
	for level := 7; level >= 0; level-- {
		for _, x := range m.level(level) {
			if behind != nil && !less(*behind, x) {
				continue
			}
			n++
			if !less(x, k) {
				break
			}
			behind = &x
		}
	}
	return n
}

func (m *model) bytes() []byte {
	b := shape.Num(nil, int64(len(m.cells)))
	for _, c := range m.list() {
		b = shape.Num(b, int64(c.Key.Table), c.Key.Row, c.Value, c.Slot)
	}
	return b
}

// modelParse is the cells of bytes, read number by number, and the error.
func modelParse(b []byte) ([]api.Cell, api.Errno) {
	many, size, e := shape.TakeNum(b)
	if e != api.OK {
		return nil, e
	}
	if many < 0 || many > 1<<20 {
		return nil, api.ErrBytes
	}
	b = b[size:]
	var l []api.Cell
	for range many {
		var n [4]int64
		for i := range n {
			if n[i], size, e = shape.TakeNum(b); e != api.OK {
				return nil, e
			}
			b = b[size:]
		}
		c := cell(int32(n[0]), n[1], n[2], n[3])
		if n[0] < -1<<31 || n[0] >= 1<<31 || n[3] < 0 || n[3] > 1<<40 || len(l) > 0 && !less(l[len(l)-1].Key, c.Key) {
			return nil, api.ErrBytes
		}
		l = append(l, c)
	}
	if len(b) > 0 {
		return nil, api.ErrMore
	}
	return l, api.OK
}

// parsesAsWords holds Parse of any bytes against the chapter's words.
func parsesAsWords(t *testing.T, b []byte, seed uint64) {
	t.Helper()
	s, e := skip.Parse(b, seed)
	l, want := modelParse(b)
	if e != want || (s == nil) != (e != api.OK) {
		t.Fatal(b, seed, s, e, "not", want)
	}
	if e != api.OK {
		return
	}
	m := modelOf(seed)
	for _, c := range l {
		m.put(c)
	}
	asModel(t, s, m)
	if !bytes.Equal(s.Bytes(), b) {
		t.Fatal(b, "is written as", s.Bytes())
	}
}

// asModel holds all that a store tells against the model; and P12.5, P12.6 and P12.7.
func asModel(t *testing.T, s *skip.Skip, m *model) {
	t.Helper()
	if s.Len() != len(m.cells) || !slices.Equal(all(s), m.list()) || !bytes.Equal(s.Bytes(), m.bytes()) {
		t.Fatal(all(s), "not", m.list())
	}
	ahead := slices.Collect(s.Level(0))
	for level := range api.MaxHeight {
		l := slices.Collect(s.Level(level))
		if !slices.Equal(l, m.level(level)) {
			t.Fatal(level, l, "not", m.level(level))
		}
		for _, k := range l {
			if !slices.Contains(ahead, k) {
				t.Fatal(level, k, "is not among", ahead)
			}
		}
		ahead = l
	}
	u, e := skip.Parse(s.Bytes(), 5)
	if e != api.OK || !skip.Same(s, u) || !skip.Same(u, s) {
		t.Fatal(e, all(s))
	}
}

// asked holds what a store tells of some keys against the model.
func asked(t *testing.T, s *skip.Skip, m *model, a, b api.Key) {
	t.Helper()
	got, ok := s.Get(a)
	want, is := m.cells[a]
	if got != want || ok != is {
		t.Fatal("Get", a, got, ok, want)
	}
	if l := s.Range(a, b); !slices.Equal(l, m.between(a, b)) {
		t.Fatal("Range", a, b, l)
	}
	if l := slices.Collect(s.From(a)); !slices.Equal(l, m.from(a)) {
		t.Fatal("From", a, l)
	}
	if n := s.Steps(a); n != m.steps(a) || n > api.MaxHeight+2*s.Len() {
		t.Fatal("Steps", a, n, "not", m.steps(a))
	}
}

// drawnKey is a key out of few, or one at an edge, or any at all.
func drawnKey(r *rand.Rand) api.Key {
	switch r.Intn(12) {
	case 0:
		l := rising()
		return l[r.Intn(len(l))]
	case 1:
		return key(int32(r.Uint32()), int64(r.Uint64()))
	}
	return key(int32(r.Intn(3)-1), int64(r.Intn(12)-6))
}

func drawnCell(r *rand.Rand) api.Cell {
	c := api.Cell{Key: drawnKey(r), Value: int64(r.Uint64()) >> r.Intn(64), Slot: r.Int63n(maxTime + 1)}
	if r.Intn(8) == 0 {
		c.Slot = []int64{math.MinInt64, -1, 0, maxTime, maxTime + 1, math.MaxInt64}[r.Intn(6)]
	}
	return c
}

func drawnSeed(r *rand.Rand) uint64 {
	if r.Intn(2) == 0 {
		return seeds()[r.Intn(len(seeds()))]
	}
	return r.Uint64() >> r.Intn(64)
}

// op is a step: a Put, or an Erase of the cell's key.
type op struct {
	erase bool
	c     api.Cell
}

func (o op) do(s *skip.Skip) api.Errno {
	if o.erase {
		return s.Erase(o.c.Key)
	}
	return s.Put(o.c)
}

func (o op) doModel(m *model) api.Errno {
	if o.erase {
		return m.erase(o.c.Key)
	}
	return m.put(o.c)
}

// drawnOp is a step, often about a key that is there: the first one, the last one, or another.
func drawnOp(r *rand.Rand, m *model) op {
	o := op{r.Intn(5) < 2, drawnCell(r)}
	if l := m.list(); len(l) > 0 && r.Intn(3) == 0 {
		o.c.Key = l[[]int{0, len(l) - 1, r.Intn(len(l))}[r.Intn(3)]].Key
	}
	return o
}

// P12.1 to P12.7, R1, R6: drawn steps, whatever the seed is, held against a plain map of keys; two stores come to the same by the same steps.
func TestDrawnSteps(t *testing.T) {
	for seed := range int64(400) {
		r := rand.New(rand.NewSource(seed))
		from := drawnSeed(r)
		s, twin, m := skip.New(from), skip.New(from), modelOf(from)
		for i := range 120 {
			o := drawnOp(r, m)
			got, again, want := o.do(s), o.do(twin), o.doModel(m)
			if got != want || again != want {
				t.Fatal(seed, i, o, got, again, want)
			}
			asModel(t, s, m)
			for range 3 {
				asked(t, s, m, drawnKey(r), drawnKey(r))
			}
		}
		asModel(t, twin, m)
	}
}

// P12.1, P12.3, P12.4, R3: stores and clones of them, and clones of those, each going its own way by drawn steps.
func TestDrawnClones(t *testing.T) {
	type both struct {
		s *skip.Skip
		m *model
	}
	for seed := range int64(200) {
		r := rand.New(rand.NewSource(seed))
		from := drawnSeed(r)
		l := []both{{skip.New(from), modelOf(from)}}
		for i := range 60 {
			x := l[r.Intn(len(l))]
			if len(l) < 6 && r.Intn(6) == 0 {
				l = append(l, both{x.s.Clone(), x.m.clone()})
				continue
			}
			o := drawnOp(r, x.m)
			if got, want := o.do(x.s), o.doModel(x.m); got != want {
				t.Fatal(seed, i, o, got, want)
			}
			for _, y := range l {
				asModel(t, y.s, y.m)
			}
		}
	}
}

// P12.2, P12.7: long stores, of heights that many seeds draw: Steps of each of its keys, and of those between them.
func TestDrawnLong(t *testing.T) {
	for seed := range int64(30) {
		r := rand.New(rand.NewSource(seed))
		from := drawnSeed(r)
		s, m := skip.New(from), modelOf(from)
		for range 300 {
			c := drawnCell(r)
			c.Key = key(0, int64(r.Intn(800)))
			if got, want := s.Put(c), m.put(c); got != want {
				t.Fatal(seed, c, got, want)
			}
		}
		asModel(t, s, m)
		for range 100 {
			asked(t, s, m, key(0, int64(r.Intn(820)-10)), key(0, int64(r.Intn(820)-10)))
		}
	}
}

// P12.3, P12.4: stores of unlike seeds and histories are the same just if their maps are, and then have the same bytes.
func TestDrawnSame(t *testing.T) {
	yes, no := 0, 0
	for seed := range int64(3000) {
		r := rand.New(rand.NewSource(seed))
		var stores [2]*skip.Skip
		var maps [2]*model
		for i := range stores {
			from := drawnSeed(r)
			stores[i], maps[i] = skip.New(from), modelOf(from)
			for range r.Intn(6) {
				c := cell(0, int64(r.Intn(2)), int64(r.Intn(2)), int64(r.Intn(2)))
				stores[i].Put(c)
				maps[i].put(c)
				if r.Intn(4) == 0 {
					stores[i].Erase(c.Key)
					maps[i].erase(c.Key)
				}
			}
		}
		want := slices.Equal(maps[0].list(), maps[1].list())
		if skip.Same(stores[0], stores[1]) != want || skip.Same(stores[1], stores[0]) != want || bytes.Equal(stores[0].Bytes(), stores[1].Bytes()) != want {
			t.Fatal(seed, all(stores[0]), all(stores[1]))
		}
		if want {
			yes++
		} else {
			no++
		}
	}
	if yes < 100 || no < 100 {
		t.Error("few of a kind:", yes, no)
	}
}

// P12.3, P12.6, R1: drawn bytes: numbers that may be and that may not, spoilt and cut, are read as the chapter's words say.
func TestDrawnBytes(t *testing.T) {
	kinds := map[api.Errno]int{}
	for seed := range int64(40000) {
		r := rand.New(rand.NewSource(seed))
		many := r.Intn(5)
		l := []int64{int64(many)}
		if r.Intn(10) == 0 {
			l[0] += int64(r.Intn(3) - 1)
		}
		row := int64(r.Intn(9) - 4)
		for range many {
			c := drawnCell(r)
			c.Key = key(0, row)
			row += int64(r.Intn(8))
			l = append(l, int64(c.Key.Table), c.Key.Row, c.Value, c.Slot)
		}
		if r.Intn(6) == 0 {
			l[r.Intn(len(l))] = []int64{math.MinInt64, -1, 1 << 31, maxTime + 1, math.MaxInt64}[r.Intn(5)]
		}
		b := shape.Num(nil, l...)
		switch r.Intn(6) {
		case 0:
			b = b[:r.Intn(len(b)+1)]
		case 1:
			b[r.Intn(len(b))] = byte(r.Intn(20))
		case 2:
			b = append(b, byte(r.Intn(20)))
		}
		parsesAsWords(t, b, drawnSeed(r))
		_, e := skip.Parse(b, 0)
		kinds[e]++
	}
	for _, e := range []api.Errno{api.OK, api.ErrEnds, api.ErrForm, api.ErrMore, api.ErrBytes} {
		if kinds[e] < 100 {
			t.Error("few of a kind:", e, kinds)
		}
	}
}
