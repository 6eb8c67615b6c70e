package journal_test

import (
	"bytes"
	"hash/fnv"
	"math"
	"math/big"
	"reflect"
	"slices"
	"testing"

	"trivet/api"
	"trivet/journal"
)

// number is a number's bytes as shape's chapter tells them, by the library's great numbers.
func number(x int64) []byte {
	m := big.NewInt(x)
	low := new(big.Int).Abs(m).Bytes()
	slices.Reverse(low)
	head := byte(2 * len(low))
	if m.Sign() < 0 {
		head++
	}
	return append([]byte{head}, low...)
}

// body is parts one behind the other, and noughts up to a page's end without its check.
func body(parts ...[]byte) []byte {
	b := make([]byte, api.PageBytes-8)
	if all := slices.Concat(parts...); copy(b, all) != len(all) {
		panic("no room in a page")
	}
	return b
}

// low is the check of bytes by the library's own, in eight bytes, the lowest one first.
func low(b []byte) []byte {
	h := fnv.New64a()
	h.Write(b)
	sum := h.Sum(nil)
	slices.Reverse(sum)
	return sum
}

// sealed is a page of that body, with the check that such a page has.
func sealed(b []byte) []byte {
	return append(low(b), b...)
}

// sheet is a leaf as a page, whether the leaf is right or not.
func sheet(x api.Leaf) []byte {
	return sealed(body(number(x.Page), number(x.Record), number(x.Part), number(x.Many), number(int64(len(x.Data))), x.Data))
}

// sameLeaf goes by all that leaves have in them; a list that is nil is one that is empty.
func sameLeaf(a, b api.Leaf) bool {
	data := bytes.Equal(a.Data, b.Data)
	a.Data, b.Data = nil, nil
	return data && reflect.DeepEqual(a, b)
}

// filled is n bytes, no two neighbours of which are the same.
func filled(n int) []byte {
	b := make([]byte, n)
	for i := range b {
		b[i] = byte(i%251 + 1)
	}
	return b
}

// leafEdges are leaves with one number, or their bytes, at an edge, and whether they are right.
func leafEdges() map[string]struct {
	leaf  api.Leaf
	right bool
} {
	type edge = struct {
		leaf  api.Leaf
		right bool
	}
	m := map[string]edge{}
	put := func(name string, right bool, change func(x *api.Leaf)) {
		x := api.Leaf{Page: 5, Record: 300, Part: 2, Many: 4, Data: []byte("ab")}
		change(&x)
		m[name] = edge{x, right}
	}
	put("ordinary", true, func(*api.Leaf) {})
	for name, n := range map[string]int64{"-1": -1, "least": math.MinInt64, "one more than MaxTime": api.MaxTime + 1, "greatest": math.MaxInt64} {
		put("Page "+name, false, func(x *api.Leaf) { x.Page = n })
		put("Record "+name, false, func(x *api.Leaf) { x.Record = n })
	}
	for name, n := range map[string]int64{"0": 0, "1": 1, "MaxTime": api.MaxTime} {
		put("Page "+name, true, func(x *api.Leaf) { x.Page = n })
		put("Record "+name, true, func(x *api.Leaf) { x.Record = n })
	}
	put("Part -1", false, func(x *api.Leaf) { x.Part = -1 })
	put("Part least", false, func(x *api.Leaf) { x.Part = math.MinInt64 })
	put("Part 0", true, func(x *api.Leaf) { x.Part = 0 })
	put("Part Many - 1", true, func(x *api.Leaf) { x.Part = 3 })
	put("Part Many", false, func(x *api.Leaf) { x.Part = 4 })
	put("Many 0", false, func(x *api.Leaf) { x.Part, x.Many = 0, 0 })
	put("Many -1", false, func(x *api.Leaf) { x.Part, x.Many = 0, -1 })
	put("Many least, where one less wraps round", false, func(x *api.Leaf) { x.Part, x.Many = 0, math.MinInt64 })
	put("Many 1", true, func(x *api.Leaf) { x.Part, x.Many = 0, 1 })
	put("Many MaxJournal", true, func(x *api.Leaf) { x.Many = api.MaxJournal })
	put("Many MaxJournal, its last part", true, func(x *api.Leaf) { x.Part, x.Many = api.MaxJournal-1, api.MaxJournal })
	put("Many MaxJournal, one behind", false, func(x *api.Leaf) { x.Part, x.Many = api.MaxJournal, api.MaxJournal })
	put("Many one more than MaxJournal", false, func(x *api.Leaf) { x.Many = api.MaxJournal + 1 })
	put("Data nil", true, func(x *api.Leaf) { x.Data = nil })
	put("Data empty", true, func(x *api.Leaf) { x.Data = []byte{} })
	put("Data one byte", true, func(x *api.Leaf) { x.Data = []byte{0} })
	put("Data JournalChunk", true, func(x *api.Leaf) { x.Data = filled(api.JournalChunk) })
	put("Data one byte more than JournalChunk", false, func(x *api.Leaf) { x.Data = filled(api.JournalChunk + 1) })
	put("all at their greatest", true, func(x *api.Leaf) {
		*x = api.Leaf{Page: api.MaxTime, Record: api.MaxTime, Part: api.MaxJournal - 1, Many: api.MaxJournal, Data: filled(api.JournalChunk)}
	})
	return m
}

// P5.1: a leaf that is right is a page as the chapter says, and that page is the leaf again; one that is not is ErrArg, and its page, with a check that holds, none.
func TestLeafEdges(t *testing.T) {
	for name, x := range leafEdges() {
		b, e := journal.Page(x.leaf)
		p := sheet(x.leaf)
		y, ok := journal.ParsePage(p)
		if !x.right {
			if b != nil || e != api.ErrArg || ok || !reflect.DeepEqual(y, api.Leaf{}) {
				t.Error(name, b, e, y, ok)
			}
			continue
		}
		if e != api.OK || !bytes.Equal(b, p) {
			t.Error(name, "is", b, "not", p, e)
		}
		if !ok || !sameLeaf(x.leaf, y) {
			t.Error(name, "reads as", y, ok)
		}
	}
	if b, e := journal.Page(api.Leaf{}); b != nil || e != api.ErrArg {
		t.Error("the empty leaf, which has no part:", b, e)
	}
}

// P5.1: a page byte for byte.
func TestPageBytes(t *testing.T) {
	b, e := journal.Page(api.Leaf{Page: 5, Record: 300, Part: 0, Many: 1, Data: []byte("ab")})
	if e != api.OK || len(b) != api.PageBytes {
		t.Fatal(len(b), e)
	}
	want := []byte{2, 5, 4, 44, 1, 0, 2, 1, 2, 2, 97, 98}
	if !bytes.Equal(b[8:20], want) || !bytes.Equal(b[20:], make([]byte, api.PageBytes-20)) {
		t.Error(b)
	}
	h := fnv.New64a()
	h.Write(b[8:])
	sum := h.Sum64()
	for i, x := range b[:8] {
		if x != byte(sum>>(8*i)) {
			t.Error("byte", i, "of the check is", x)
		}
	}
}

func refused(t *testing.T, name string, b []byte) {
	t.Helper()
	if x, ok := journal.ParsePage(b); ok || !reflect.DeepEqual(x, api.Leaf{}) {
		t.Error(name, "reads as", x, ok)
	}
}

// P5.1: fewer bytes than PageBytes are no leaf, and no more are, whatever they are.
func TestPageLengths(t *testing.T) {
	for _, x := range leafEdges() {
		if !x.right {
			continue
		}
		p := sheet(x.leaf)
		for n := range p {
			refused(t, "a beginning", p[:n])
			refused(t, "an end", p[n+1:])
		}
		refused(t, "a nought more", append(slices.Clone(p), 0))
		refused(t, "a page twice", slices.Concat(p, p))
	}
	refused(t, "nil", nil)
	b := append(body(number(5), number(300), number(0), number(1), number(0)), 0)
	refused(t, "a nought more with its check", sealed(b))
	refused(t, "a nought less with its check", sealed(b[:len(b)-2]))
}

// P5.1: with one bit changed, wherever, a page is no leaf's; with all of its noughts changed neither.
func TestPageBits(t *testing.T) {
	for name, x := range leafEdges() {
		if !x.right {
			continue
		}
		p := sheet(x.leaf)
		for i := range p {
			for bit := range 8 {
				p[i] ^= 1 << bit
				refused(t, name+" with a bit changed", p)
				p[i] ^= 1 << bit
			}
		}
	}
	refused(t, "noughts", make([]byte, api.PageBytes))
	refused(t, "bytes of 255", bytes.Repeat([]byte{255}, api.PageBytes))
	refused(t, "noughts with their check", sealed(make([]byte, api.PageBytes-8)))
}

// P5.1: the check is of all that follows it, and has its lowest byte first.
func TestPageCheck(t *testing.T) {
	parts := slices.Concat(number(5), number(300), number(0), number(1), number(2), []byte("ab"))
	b := body(parts)
	if _, ok := journal.ParsePage(sealed(b)); !ok {
		t.Fatal("no leaf")
	}
	refused(t, "a check without the noughts", append(low(parts), b...))
	turned := low(b)
	slices.Reverse(turned)
	refused(t, "a check with its highest byte first", append(turned, b...))
}

// P5.1: bytes whose check holds, but which Page does not write: noughts that are none, numbers and blobs in forms that shape does not write, numbers that may not be.
func TestPageForms(t *testing.T) {
	five, many, none := number(5), number(3), number(0)
	good := [][]byte{five, five, none, many, number(2), []byte("ab")}
	if x, ok := journal.ParsePage(sealed(body(good...))); !ok || x.Page != 5 || x.Many != 3 {
		t.Fatal(x, ok)
	}
	size := len(slices.Concat(good...))
	for i := size; i < api.PageBytes-8; i++ {
		b := body(good...)
		b[i] = 1
		refused(t, "a nought that is 1", sealed(b))
	}
	b := body(good...)
	for i := size; i < len(b); i++ {
		b[i] = 255
	}
	refused(t, "bytes of 255 for noughts", sealed(b))
	forms := map[string][]byte{
		"a byte more than needed": {4, 5, 0},
		"0 with a byte":           {2, 0},
		"0 below 0":               {1},
		"below 0":                 {3, 5},
		"nine bytes":              {18, 1, 1, 1, 1, 1, 1, 1, 1, 1},
		"more than 64 bits":       {16, 1, 1, 1, 1, 1, 1, 1, 128},
		"a head of 255":           {255},
	}
	for name, form := range forms {
		for i := range 5 {
			bad := slices.Clone(good)
			bad[i] = form
			refused(t, name, sealed(body(bad...)))
		}
	}
	all := slices.Repeat([]byte{7}, api.PageBytes-8)
	copy(all, slices.Concat(five, five, none, many, number(int64(len(all)))))
	refused(t, "a blob over the page's end", sealed(all))
	copy(all, slices.Concat(five, five, none, many, number(math.MaxInt64)))
	refused(t, "a blob of more than anything", sealed(all))
	copy(all, slices.Concat(five, five, none, many, number(int64(len(all)-10))))
	refused(t, "a blob up to the page's end", sealed(all))
}

// FuzzParsePage looks for bytes that are read as a leaf of which Page writes others. With the check made good the forms behind it are reached.
func FuzzParsePage(f *testing.F) {
	for _, x := range leafEdges() {
		f.Add(sheet(x.leaf))
	}
	f.Fuzz(func(t *testing.T, b []byte) {
		if len(b) == api.PageBytes {
			b = sealed(b[8:])
		}
		x, ok := journal.ParsePage(b)
		p, e := journal.Page(x)
		if ok != (e == api.OK && bytes.Equal(p, b)) {
			t.Error(b, "reads as", x, ok, "whose page is", p, e)
		}
	})
}
