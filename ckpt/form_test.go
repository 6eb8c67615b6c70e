package ckpt_test

import (
	"bytes"
	"hash/fnv"
	"math"
	"math/rand"
	"slices"
	"testing"

	"trivet/api"
	"trivet/ckpt"
)

const top = int64(1) << 40 // MaxTime

// numeral is a number's bytes, by the words of shape's chapter.
func numeral(n int64) []byte {
	head, u := byte(0), uint64(n)
	if n < 0 {
		head, u = 1, -u
	}
	var l []byte
	for ; u > 0; u /= 256 {
		l = append(l, byte(u%256))
	}
	return append([]byte{head + byte(2*len(l))}, l...)
}

// text is pieces one behind the other, as they are.
func text(l ...[]byte) []byte { return slices.Concat(l...) }

// blob is bytes behind their length.
func blob(b []byte) []byte { return text(numeral(int64(len(b))), b) }

// shut is pieces as sealed bytes, by the library's own check.
func shut(l ...[]byte) []byte {
	b := text(l...)
	h := fnv.New64a()
	h.Write(b)
	sum := h.Sum(nil)
	slices.Reverse(sum)
	return text(blob(b), sum)
}

// written is a checkpoint as the chapter says that it is written, whether it may be or not.
func written(number int64, s api.Saved) []byte {
	return shut(numeral(number), numeral(s.Slot), numeral(s.Last), blob(s.Data))
}

// filled is n bytes, of which those of pages that follow each other are not the same.
func filled(n int) []byte {
	b := make([]byte, n)
	for i := range b {
		b[i] = byte(i + i/256*7 + i/65536)
	}
	return b
}

// sized is a checkpoint of that number whose form has just so many bytes.
func sized(t *testing.T, number, slot, last int64, size int) api.Saved {
	t.Helper()
	for n := size - 60; n < size; n++ {
		if s := (api.Saved{Slot: slot, Last: last, Data: filled(max(0, n))}); n >= 0 && len(written(number, s)) == size {
			return s
		}
	}
	t.Fatal("nothing is written in just", size, "bytes")
	return api.Saved{}
}

func alike(a, b api.Saved) bool {
	return a.Slot == b.Slot && a.Last == b.Last && bytes.Equal(a.Data, b.Data)
}

// same fails the test where an error is not the one that is asked for.
func same(t *testing.T, got, want api.Errno) {
	t.Helper()
	if got != want {
		t.Error("answers", got, "not", want)
	}
}

// refused fails the test, unless bytes are no checkpoint's, with nothing beside the error.
func refused(t *testing.T, name any, b []byte) {
	t.Helper()
	if n, s, e := ckpt.Decode(b); n != 0 || s.Slot != 0 || s.Last != 0 || s.Data != nil || e != api.ErrCkpt {
		t.Error(name, "is read as", n, s.Slot, s.Last, len(s.Data), e)
	}
}

// taken fails the test, unless bytes begin with this checkpoint.
func taken(t *testing.T, b []byte, number int64, s api.Saved) {
	t.Helper()
	if n, x, e := ckpt.Decode(b); n != number || !alike(x, s) || e != api.OK {
		t.Error(number, s.Slot, s.Last, len(s.Data), "is read as", n, x.Slot, x.Last, len(x.Data), e)
	}
}

// some are checkpoints with their numbers: ordinary ones, and those at the edges.
func some() map[int64][]api.Saved {
	l := []api.Saved{
		{}, {Slot: 5, Last: 1, Data: []byte("x")}, {Slot: 9, Last: 2, Data: []byte("y")},
		{Slot: top}, {Last: top}, {Slot: top, Last: top, Data: filled(300)}, {Slot: 255, Last: 256, Data: filled(255)}, {Data: filled(256)},
		{Slot: 3, Last: 3, Data: filled(api.MaxState - 1)}, {Slot: top, Last: top, Data: filled(api.MaxState)},
	}
	m := map[int64][]api.Saved{}
	for _, n := range []int64{1, 2, 255, 256, 65535, 65536, top - 1, top} {
		m[n] = l
	}
	return m
}

// P6.1: a checkpoint's bytes are the sealed numbers, and the data as a blob; they are read as what they were made of, whatever stands behind them.
func TestForm(t *testing.T) {
	b, e := ckpt.Encode(1, api.Saved{Slot: 5, Last: 300, Data: []byte("x")})
	if want := shut([]byte{2, 1, 2, 5, 4, 44, 1, 2, 1, 'x'}); e != api.OK || !bytes.Equal(b, want) || b[0] != 2 || b[1] != 10 || len(b) != 20 {
		t.Error(b, "not", want, e)
	}
	for n, l := range some() {
		for _, s := range l {
			b, e := ckpt.Encode(n, s)
			if e != api.OK || !bytes.Equal(b, written(n, s)) {
				t.Error(n, s.Slot, s.Last, len(s.Data), "has", len(b), "bytes", e)
			}
			for _, behind := range [][]byte{nil, {0}, {255}, bytes.Repeat([]byte{255}, 256), filled(5000), b} {
				taken(t, text(b, behind), n, s)
			}
		}
	}
}

// P6.1, R2: numbers, slots and terms that may not be; data that is too long; which of two errors comes first; nothing beside an error.
func TestEncodeErrors(t *testing.T) {
	long := make([]byte, api.MaxState+1)
	good := api.Saved{Slot: 1, Last: 1, Data: []byte("x")}
	try := func(number int64, s api.Saved, want api.Errno) {
		t.Helper()
		b, e := ckpt.Encode(number, s)
		if e != want || (b == nil) != (want != api.OK) {
			t.Error(number, s.Slot, s.Last, len(s.Data), "answers", len(b), e, "not", want)
		}
	}
	wrong := []int64{-1, top + 1, math.MinInt64, math.MaxInt64, -top}
	for _, n := range wrong {
		try(n, good, api.ErrArg)
		try(1, api.Saved{Slot: n}, api.ErrArg)
		try(1, api.Saved{Last: n}, api.ErrArg)
		try(n, api.Saved{Data: long}, api.ErrArg)
		try(1, api.Saved{Slot: n, Data: long}, api.ErrArg)
		try(1, api.Saved{Last: n, Data: long}, api.ErrArg)
		try(n, api.Saved{Slot: n, Last: n, Data: long}, api.ErrArg)
	}
	try(0, good, api.ErrArg)
	try(0, api.Saved{Data: long}, api.ErrArg)
	try(1, api.Saved{Data: long}, api.ErrLong)
	try(top, api.Saved{Slot: top, Last: top, Data: make([]byte, 2*api.MaxBytes)}, api.ErrLong)
	for _, n := range []int64{0, 1, top - 1, top} {
		try(1, api.Saved{Slot: n}, api.OK)
		try(1, api.Saved{Last: n}, api.OK)
		try(max(1, n), api.Saved{Data: long[1:]}, api.OK)
	}
}

// P6.1: with any single bit changed, and of any fewer bytes, it is no checkpoint.
func TestDecodeOfSpoilt(t *testing.T) {
	for _, s := range []api.Saved{{}, {Slot: 5, Last: 1, Data: []byte("x")}, {Slot: top, Last: 70000, Data: filled(300)}} {
		b := written(258, s)
		for i := range b {
			refused(t, i, b[:i])
			for bit := range 8 {
				c := slices.Clone(b)
				c[i] ^= 1 << bit
				refused(t, i, c)
				refused(t, i, text(c, bytes.Repeat([]byte{255}, 500)))
			}
		}
	}
	refused(t, "nothing", nil)
	refused(t, "an empty list", []byte{})
	refused(t, "a blank page", bytes.Repeat([]byte{255}, 256))
	refused(t, "noughts", make([]byte, 256))
}

// P6.1: sealed bytes that are whole, and yet no checkpoint's.
func TestDecodeOfOthers(t *testing.T) {
	n := numeral
	x := blob([]byte("xy"))
	good := text(n(7), n(8), n(9), x)
	taken(t, shut(good), 7, api.Saved{Slot: 8, Last: 9, Data: []byte("xy")})
	for name, b := range map[string][]byte{
		"nothing":                      nil,
		"one number":                   n(7),
		"two numbers":                  text(n(7), n(8)),
		"three numbers":                text(n(7), n(8), n(9)),
		"two numbers and data":         text(n(7), n(8), x),
		"four numbers":                 text(n(7), n(8), n(9), n(3)),
		"a number more":                text(n(7), n(8), n(9), n(9), x),
		"a byte more":                  text(good, []byte{0}),
		"a blob more":                  text(good, x),
		"a byte less":                  good[:len(good)-1],
		"a byte ahead":                 text([]byte{0}, good),
		"data without its length":      text(n(7), n(8), n(9), []byte("xy")),
		"the number 0":                 text(n(0), n(8), n(9), x),
		"the number -1":                text(n(-1), n(8), n(9), x),
		"a number above":               text(n(top+1), n(8), n(9), x),
		"a number far above":           text(n(math.MaxInt64), n(8), n(9), x),
		"a slot below 0":               text(n(7), n(-1), n(9), x),
		"a slot above":                 text(n(7), n(top+1), n(9), x),
		"a term below 0":               text(n(7), n(8), n(-1), x),
		"a term above":                 text(n(7), n(8), n(top+1), x),
		"data that are too long":       text(n(7), n(8), n(9), blob(make([]byte, api.MaxState+1))),
		"data as long as can be":       text(n(7), n(8), n(9), blob(make([]byte, api.MaxBytes-10))),
		"a number with a nought":       text([]byte{4, 7, 0}, n(8), n(9), x),
		"a slot with a nought":         text(n(7), []byte{4, 8, 0}, n(9), x),
		"a term with a nought":         text(n(7), n(8), []byte{4, 9, 0}, x),
		"a 0 of one byte":              text(n(7), n(8), []byte{2, 0}, x),
		"a 0 below 0":                  text(n(7), n(8), []byte{1}, x),
		"a number of nine bytes":       text([]byte{18, 7, 1, 1, 1, 1, 1, 1, 1, 1}, n(8), n(9), x),
		"a number of 64 bits":          text([]byte{16, 7, 1, 1, 1, 1, 1, 1, 128}, n(8), n(9), x),
		"a length with a nought":       text(n(7), n(8), n(9), []byte{4, 2, 0, 'x', 'y'}),
		"a length below 0":             text(n(7), n(8), n(9), []byte{3, 2, 'x', 'y'}),
		"a length of none as -0":       text(n(7), n(8), n(9), []byte{1}),
		"a length of none in one byte": text(n(7), n(8), n(9), []byte{2, 0}),
		"a length that is too great":   text(n(7), n(8), n(9), []byte{2, 3, 'x', 'y'}),
		"a length that is too small":   text(n(7), n(8), n(9), []byte{2, 1, 'x', 'y'}),
		"a length of great bytes":      text(n(7), n(8), n(9), n(math.MaxInt64), []byte("xy")),
	} {
		refused(t, name, shut(b))
		refused(t, name, text(shut(b), bytes.Repeat([]byte{255}, 256)))
	}
	sum := shut(good)[len(good)+2:]
	refused(t, "sealed, the length with a nought", text([]byte{4, byte(len(good)), 0}, good, sum))
	refused(t, "sealed, the length below 0", text([]byte{3, byte(len(good))}, good, sum))
	refused(t, "sealed, longer than MaxBytes", shut(make([]byte, api.MaxBytes+1)))
	refused(t, "not sealed", text(good, bytes.Repeat([]byte{255}, 256)))
	refused(t, "a byte ahead of the seal", text([]byte{0}, shut(good)))
}

// agree fails the test, unless what Decode answers of bytes is what Encode makes the beginning of these bytes of.
func agree(t *testing.T, b []byte) bool {
	t.Helper()
	n, s, e := ckpt.Decode(b)
	if e != api.OK {
		refused(t, b, b)
		return false
	}
	c, e := ckpt.Encode(n, s)
	if e != api.OK || !bytes.HasPrefix(b, c) || !bytes.Equal(c, written(n, s)) {
		t.Error(b, "is read as", n, s, "which is written as", c, e)
	}
	return true
}

// P6.1: sealed bytes of drawn pieces: what is read is, written again, just these bytes.
func TestDecodeOfDrawn(t *testing.T) {
	draw := rand.New(rand.NewSource(1))
	good := 0
	for range 30000 {
		var b []byte
		for range 3 + draw.Intn(2)*draw.Intn(2) {
			b = append(b, numeral([]int64{0, 1, 300, top, top + 1, -1, draw.Int63n(top)}[draw.Intn(7)])...)
		}
		b = append(b, blob(filled(draw.Intn(20)))...)
		if draw.Intn(4) == 0 {
			b[draw.Intn(len(b))] ^= byte(1 << draw.Intn(8))
		}
		if agree(t, text(shut(b), filled(draw.Intn(20)))) {
			good++
		}
	}
	if good < 3000 || good > 27000 {
		t.Error(good, "of them are checkpoints")
	}
}

// P6.1: of any bytes, sealed or not.
func FuzzDecode(f *testing.F) {
	f.Add([]byte{}, true)
	f.Add([]byte{2, 1, 2, 5, 4, 44, 1, 2, 1, 'x'}, true)
	f.Add(written(7, api.Saved{Slot: 8, Last: 9, Data: []byte("xy")}), false)
	f.Fuzz(func(t *testing.T, b []byte, seal bool) {
		if seal && len(b) <= api.MaxBytes {
			b = shut(b)
		}
		agree(t, b)
	})
}
