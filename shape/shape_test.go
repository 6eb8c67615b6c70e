package shape_test

import (
	"bytes"
	"fmt"
	"hash/fnv"
	"math"
	"math/big"
	"math/rand"
	"slices"
	"testing"

	"trivet/api"
	"trivet/shape"
)

// numbers are the ordinary ones and those at which a byte more is needed, on both sides of 0.
func numbers() []int64 {
	l := []int64{0, 5, -5, 300, -300, math.MaxInt64, math.MinInt64, math.MinInt64 + 1}
	for k := range 63 {
		for d := int64(-1); d <= 1; d++ {
			l = append(l, int64(1)<<k+d, -(int64(1)<<k)+d)
		}
	}
	return l
}

// written is the number's bytes as the chapter tells them, by the library's great numbers.
func written(x int64) []byte {
	m := big.NewInt(x)
	low := new(big.Int).Abs(m).Bytes()
	slices.Reverse(low)
	head := byte(2 * len(low))
	if m.Sign() < 0 {
		head++
	}
	return append([]byte{head}, low...)
}

// told is what TakeNum is to answer, by the chapter's words, by the library's great numbers.
func told(b []byte) (int64, int, api.Errno) {
	if len(b) == 0 {
		return 0, 0, api.ErrEnds
	}
	if b[0] > 17 || b[0] == 1 {
		return 0, 0, api.ErrForm
	}
	k := int(b[0] / 2)
	if len(b)-1 < k {
		return 0, 0, api.ErrEnds
	}
	low := slices.Clone(b[1 : 1+k])
	if k > 0 && low[k-1] == 0 {
		return 0, 0, api.ErrForm
	}
	slices.Reverse(low)
	m := new(big.Int).SetBytes(low)
	if b[0]%2 == 1 {
		m.Neg(m)
	}
	if !m.IsInt64() {
		return 0, 0, api.ErrForm
	}
	return m.Int64(), 1 + k, api.OK
}

func text(l ...any) string { return fmt.Sprint(l...) }

// spare is b with room behind it that holds 77s, in which an answer that appends to b would be seen.
func spare(b []byte) []byte {
	l := append(slices.Clone(b), bytes.Repeat([]byte{77}, 64)...)
	return l[:len(b)]
}

func untouched(b, was []byte) bool {
	return bytes.Equal(b, was) && bytes.Equal(b[len(b):cap(b)][:64], bytes.Repeat([]byte{77}, 64))
}

func scribble(l ...[]byte) {
	for _, b := range l {
		b = b[:cap(b)]
		for i := range b {
			b[i] ^= 0xff
		}
	}
}

// P1.1: the form of each number, and that a list's numbers stand one behind the other.
func TestNumForm(t *testing.T) {
	for _, x := range []struct {
		n int64
		b []byte
	}{
		{0, []byte{0}}, {5, []byte{2, 5}}, {-5, []byte{3, 5}}, {300, []byte{4, 44, 1}}, {255, []byte{2, 255}}, {256, []byte{4, 0, 1}},
		{math.MaxInt64, []byte{16, 255, 255, 255, 255, 255, 255, 255, 127}},
		{math.MinInt64, []byte{17, 0, 0, 0, 0, 0, 0, 0, 128}},
	} {
		if b := shape.Num(nil, x.n); !bytes.Equal(b, x.b) {
			t.Error(x.n, b)
		}
	}
	all, ahead := numbers(), []byte("ahead")
	want := slices.Clone(ahead)
	for _, x := range all {
		b := written(x)
		if !bytes.Equal(shape.Num(nil, x), b) || shape.Size(x) != len(b) {
			t.Error(x, shape.Num(nil, x), shape.Size(x))
		}
		want = append(want, b...)
	}
	if b := shape.Num(ahead, all...); !bytes.Equal(b, want) || shape.Size(all...) != len(want)-len(ahead) {
		t.Error(b)
	}
	if b := shape.Num(ahead); !bytes.Equal(b, ahead) || len(shape.Num(nil)) != 0 || shape.Size() != 0 {
		t.Error(b, shape.Size())
	}
}

// P1.1: a blob is its length and its bytes, behind what is ahead.
func TestBlobForm(t *testing.T) {
	long := bytes.Repeat([]byte{9}, 300)
	for _, x := range []struct{ b, d, want []byte }{
		{nil, []byte("ab"), []byte{2, 2, 97, 98}},
		{nil, nil, []byte{0}},
		{nil, []byte{}, []byte{0}},
		{[]byte{7, 8}, []byte{0}, []byte{7, 8, 2, 1, 0}},
		{[]byte{7}, long, append([]byte{7, 4, 44, 1}, long...)},
	} {
		if b := shape.Blob(x.b, x.d); !bytes.Equal(b, x.want) {
			t.Error(x.b, x.d, b)
		}
	}
}

// P1.2: each error of TakeNum, which of two comes first, and zero values beside it.
func TestTakeNumErrors(t *testing.T) {
	for _, x := range []struct {
		b []byte
		e api.Errno
	}{
		{nil, api.ErrEnds}, {[]byte{}, api.ErrEnds},
		{[]byte{1}, api.ErrForm}, {[]byte{1, 5}, api.ErrForm},
		{[]byte{18}, api.ErrForm}, {[]byte{18, 1, 1, 1, 1, 1, 1, 1, 1, 1}, api.ErrForm}, {[]byte{255, 1}, api.ErrForm},
		{[]byte{2}, api.ErrEnds}, {[]byte{4, 1}, api.ErrEnds}, {[]byte{4, 0}, api.ErrEnds}, {[]byte{17, 0, 0, 0, 0, 0, 0, 0}, api.ErrEnds},
		{[]byte{2, 0}, api.ErrForm}, {[]byte{3, 0}, api.ErrForm}, {[]byte{4, 1, 0}, api.ErrForm}, {[]byte{16, 1, 1, 1, 1, 1, 1, 1, 0}, api.ErrForm},
		{[]byte{16, 0, 0, 0, 0, 0, 0, 0, 128}, api.ErrForm}, {[]byte{17, 1, 0, 0, 0, 0, 0, 0, 128}, api.ErrForm},
		{[]byte{16, 255, 255, 255, 255, 255, 255, 255, 255}, api.ErrForm}, {[]byte{17, 255, 255, 255, 255, 255, 255, 255, 255}, api.ErrForm},
	} {
		if n, size, e := shape.TakeNum(x.b); e != x.e || n != 0 || size != 0 {
			t.Error(x.b, n, size, e)
		}
	}
}

// P1.2, P1.4: what is taken is what the chapter says, of all bytes up to two and of many longer ones; put again, it is the bytes that it had.
func TestTakeNumOfAnyBytes(t *testing.T) {
	try := func(b []byte) {
		n, size, e := shape.TakeNum(b)
		m, wide, f := told(b)
		if n != m || size != wide || e != f {
			t.Fatal(b, n, size, e, "not", m, wide, f)
		}
		if e == api.OK && !bytes.Equal(shape.Num(nil, n), b[:size]) {
			t.Fatal(b, n, size)
		}
	}
	for i := range 256 {
		try([]byte{byte(i)})
		for j := range 256 {
			try([]byte{byte(i), byte(j)})
		}
	}
	draw, ends := rand.New(rand.NewSource(1)), []byte{0, 1, 127, 128, 129, 255}
	for i := range 20000 {
		head := i % 20
		b := make([]byte, 2+head/2) // what the head says, and one more
		draw.Read(b)
		b[head/2] = ends[draw.Intn(len(ends))]
		b[0] = byte(head)
		for n := range len(b) + 1 {
			try(b[:n])
		}
		for n := 1; n < head/2; n++ {
			b[n] = 0
		}
		try(b)
	}
}

// P1.2: the first n numbers and what is left; the first error, with all that was handed in.
func TestNums(t *testing.T) {
	b := append(shape.Num(nil, 0, -300, math.MinInt64), 2, 0, 9)
	good := b[:len(b)-3]
	for _, x := range []struct {
		b    []byte
		n    int
		l    []int64
		rest []byte
		e    api.Errno
	}{
		{b, 1, []int64{0}, b[1:], api.OK},
		{b, 3, []int64{0, -300, math.MinInt64}, b[len(good):], api.OK},
		{b, 4, nil, b, api.ErrForm},
		{b, math.MaxInt, nil, b, api.ErrForm},
		{good, 3, []int64{0, -300, math.MinInt64}, nil, api.OK},
		{good, 4, nil, good, api.ErrEnds},
		{good, math.MaxInt, nil, good, api.ErrEnds},
		{good[:2], 2, nil, good[:2], api.ErrEnds},
		{good, 0, nil, good, api.OK}, {good, -1, nil, good, api.OK}, {good, math.MinInt, nil, good, api.OK},
		{[]byte{1}, 0, nil, []byte{1}, api.OK},
		{nil, 0, nil, nil, api.OK}, {nil, 1, nil, nil, api.ErrEnds},
	} {
		l, rest, e := shape.Nums(x.b, x.n)
		if !slices.Equal(l, x.l) || !bytes.Equal(rest, x.rest) || e != x.e {
			t.Error(x.b, x.n, l, rest, e)
		}
	}
	all := numbers()
	if l, rest, e := shape.Nums(shape.Num(nil, all...), len(all)); !slices.Equal(l, all) || len(rest) != 0 || e != api.OK {
		t.Error(l, rest, e)
	}
}

// P1.2: the blob with which bytes begin; each error, in order, with zero values beside it.
func TestTakeBlob(t *testing.T) {
	for _, x := range []struct {
		b, d []byte
		n    int
		e    api.Errno
	}{
		{[]byte{2, 2, 97, 98}, []byte("ab"), 4, api.OK},
		{[]byte{2, 2, 97, 98, 99}, []byte("ab"), 4, api.OK},
		{[]byte{0}, nil, 1, api.OK}, {[]byte{0, 7}, nil, 1, api.OK},
		{nil, nil, 0, api.ErrEnds}, {[]byte{1}, nil, 0, api.ErrForm}, {[]byte{2, 0}, nil, 0, api.ErrForm}, {[]byte{18, 1}, nil, 0, api.ErrForm},
		{[]byte{3, 1}, nil, 0, api.ErrForm}, {[]byte{3, 1, 97}, nil, 0, api.ErrForm}, {shape.Num(nil, math.MinInt64), nil, 0, api.ErrForm},
		{[]byte{2, 2}, nil, 0, api.ErrEnds}, {[]byte{2, 2, 97}, nil, 0, api.ErrEnds},
		{shape.Num(nil, math.MaxInt64), nil, 0, api.ErrEnds}, {shape.Num(nil, 1<<32), nil, 0, api.ErrEnds}, {append(shape.Num(nil, 1<<32+1), 5, 5), nil, 0, api.ErrEnds},
	} {
		d, n, e := shape.TakeBlob(x.b)
		if !bytes.Equal(d, x.d) || n != x.n || e != x.e {
			t.Error(x.b, d, n, e)
		}
	}
	great := make([]byte, api.MaxBytes+1) // a blob's length has no limit: only a seal's has
	if d, n, e := shape.TakeBlob(shape.Blob(nil, great)); !bytes.Equal(d, great) || n != len(great)+4 || e != api.OK {
		t.Error(len(d), n, e)
	}
}

// P1.4 of blobs: what is put is taken as it was, and any bytes that are taken are put again as they were.
func TestBlobsAgain(t *testing.T) {
	draw := rand.New(rand.NewSource(2))
	for i := range 600 {
		d := make([]byte, i)
		draw.Read(d)
		b := shape.Blob(nil, d)
		got, n, e := shape.TakeBlob(append(slices.Clone(b), 3, 1))
		if !bytes.Equal(got, d) || n != len(b) || e != api.OK {
			t.Fatal(i, got, n, e)
		}
	}
	taken := 0
	for range 20000 {
		b := make([]byte, draw.Intn(6))
		for i := range b {
			b[i] = byte(draw.Intn(5))
		}
		if d, n, e := shape.TakeBlob(b); e == api.OK {
			taken++
			if !bytes.Equal(shape.Blob(nil, d), b[:n]) {
				t.Fatal(b, d, n)
			}
		}
	}
	if taken < 1000 {
		t.Error("too few were taken to say anything:", taken)
	}
}

// P1.3: the check's number, by the library's own of that kind; how the bytes are dealt out to lists is not seen.
func TestCheck(t *testing.T) {
	if c := shape.Check(); c != 14695981039346656037 || shape.Check(nil, []byte{}) != c {
		t.Error(c)
	}
	if c := shape.Check([]byte("a")); c != 0xaf63dc4c8601ec8c {
		t.Error(c)
	}
	b := make([]byte, 1000)
	rand.New(rand.NewSource(3)).Read(b)
	for n := range len(b) {
		h := fnv.New64a()
		h.Write(b[:n])
		if c := shape.Check(b[:n]); c != h.Sum64() || shape.Check(b[:n/3], nil, b[n/3:n/2], b[n/2:n]) != c {
			t.Fatal(n, c)
		}
	}
}

// P1.3: the form of sealed bytes, and the longest that may be sealed.
func TestSealForm(t *testing.T) {
	for _, l := range [][]byte{nil, {}} {
		if s, e := shape.Seal(l); e != api.OK || !bytes.Equal(s, []byte{0, 37, 35, 34, 132, 228, 156, 242, 203}) {
			t.Error(s, e)
		}
	}
	if s, e := shape.Seal([]byte("a")); e != api.OK || !bytes.Equal(s, []byte{2, 1, 97, 0x8c, 0xec, 0x01, 0x86, 0x4c, 0xdc, 0x63, 0xaf}) {
		t.Error(s, e)
	}
	longest := bytes.Repeat([]byte{5}, api.MaxBytes)
	s, e := shape.Seal(longest)
	if e != api.OK || len(s) != 4+len(longest)+8 {
		t.Fatal(len(s), e)
	}
	if b, n, e := shape.Unseal(s); !bytes.Equal(b, longest) || n != len(s) || e != api.OK {
		t.Error(len(b), n, e)
	}
	if s, e := shape.Seal(append(longest, 5)); s != nil || e != api.ErrLong {
		t.Error(len(s), e)
	}
}

// P1.3: each error of Unseal, in order, with zero values beside it.
func TestUnsealErrors(t *testing.T) {
	great := append(shape.Blob(nil, make([]byte, api.MaxBytes+1)), make([]byte, 8)...)
	for _, x := range []struct {
		b []byte
		e api.Errno
	}{
		{nil, api.ErrEnds}, {[]byte{1}, api.ErrForm}, {[]byte{2, 0}, api.ErrForm}, {[]byte{18}, api.ErrForm}, {[]byte{4, 1}, api.ErrEnds},
		{shape.Num(nil, -1), api.ErrForm}, {shape.Num(nil, -api.MaxBytes-1), api.ErrForm}, {shape.Num(nil, math.MinInt64), api.ErrForm},
		{append(shape.Num(nil, -1), make([]byte, 20)...), api.ErrForm},
		{shape.Num(nil, api.MaxBytes+1), api.ErrLong}, {shape.Num(nil, math.MaxInt64), api.ErrLong}, {shape.Num(nil, 1<<32), api.ErrLong}, {great, api.ErrLong},
		{shape.Num(nil, api.MaxBytes), api.ErrEnds}, {[]byte{0}, api.ErrEnds}, {[]byte{0, 1, 2, 3, 4, 5, 6, 7}, api.ErrEnds},
		{[]byte{2, 1, 97, 0, 0, 0, 0, 0, 0, 0}, api.ErrEnds},
		{make([]byte, 9), api.ErrCheck}, {[]byte{2, 1, 97, 0, 0, 0, 0, 0, 0, 0, 0}, api.ErrCheck},
	} {
		if b, n, e := shape.Unseal(x.b); len(b) != 0 || n != 0 || e != x.e {
			t.Error(text(x.b[:min(len(x.b), 20)]), b, n, e)
		}
	}
}

// P1.4, P1.5: sealed bytes with any behind them are told as they were; a beginning ends too early; no changed byte passes.
func TestSealsAgain(t *testing.T) {
	draw := rand.New(rand.NewSource(4))
	for _, long := range []int{0, 1, 2, 5, 8, 40, 255, 256} {
		d := make([]byte, long)
		draw.Read(d)
		s, e := shape.Seal(d)
		if e != api.OK {
			t.Fatal(e)
		}
		for _, behind := range [][]byte{nil, {0}, s, {1, 2, 3, 4, 5, 6, 7, 8, 9}} {
			b, n, e := shape.Unseal(append(slices.Clone(s), behind...))
			if !bytes.Equal(b, d) || n != len(s) || e != api.OK {
				t.Fatal(d, behind, b, n, e)
			}
		}
		for n := range len(s) {
			if b, size, e := shape.Unseal(s[:n]); len(b) != 0 || size != 0 || e != api.ErrEnds {
				t.Fatal(d, n, b, size, e)
			}
		}
		for i := shape.Size(int64(long)); i < len(s); i++ {
			for with := 1; with < 256; with++ {
				s[i] ^= byte(with)
				if b, n, e := shape.Unseal(s); len(b) != 0 || n != 0 || e != api.ErrCheck {
					t.Fatal(d, i, with, b, n, e)
				}
				s[i] ^= byte(with)
			}
		}
	}
}

// R3: what is handed in is not written to, not even behind its end.
func TestArgumentsStay(t *testing.T) {
	sealed, _ := shape.Seal([]byte("sealed"))
	for _, was := range [][]byte{nil, []byte("ab"), shape.Num(nil, 4, 97, -2), shape.Blob(nil, []byte("xyz")), sealed} {
		b, d, l := spare(was), spare(was), []int64{1, -2, 300}
		shape.Num(b, l...)
		shape.Blob(b, d)
		shape.Size(l...)
		shape.TakeNum(b)
		shape.TakeBlob(b)
		shape.Check(b, d)
		shape.Seal(b)
		shape.Unseal(b)
		for n := range 4 {
			shape.Nums(b, n)
		}
		if !untouched(b, was) || !untouched(d, was) || !slices.Equal(l, []int64{1, -2, 300}) {
			t.Error(was, b, d, l)
		}
	}
}

// R3: an answer shares no memory with an argument or with another part of it.
func TestAnswersAreNobodyElses(t *testing.T) {
	ahead, d := spare([]byte("ahead")), spare([]byte("data"))
	num, none, blob := shape.Num(ahead, 7), shape.Num(ahead), shape.Blob(ahead, d)
	seal, _ := shape.Seal(d)
	was := text(num, none, blob, seal)
	scribble(ahead, d)
	if now := text(num, none, blob, seal); now != was {
		t.Error(now)
	}

	sealed, _ := shape.Seal([]byte("sealed"))
	b := spare(append(shape.Blob(nil, []byte("blob")), sealed...))
	s := spare(sealed)
	rest := func(n int) []byte { _, r, _ := shape.Nums(b, n); return r }
	taken, _, _ := shape.TakeBlob(b)
	unsealed, _, _ := shape.Unseal(s)
	some, none, whole := rest(1), rest(0), rest(50) // 50 numbers are none of b's: all is left
	was = text(taken, unsealed, some, none, whole)
	scribble(b, s)
	if now := text(taken, unsealed, some, none, whole); now != was {
		t.Error(now)
	}
	was = text(b, s)
	scribble(taken, unsealed, some, none, whole)
	if now := text(b, s); now != was {
		t.Error(now)
	}
}

// R6: the same calls answer the same, also behind calls that were refused.
func TestCallsKeepNothing(t *testing.T) {
	calls := func() string {
		n, size, e := shape.TakeNum([]byte{4, 44, 1})
		l, rest, f := shape.Nums([]byte{2, 5, 3, 5, 9}, 2)
		s, g := shape.Seal([]byte("x"))
		return text(n, size, e, l, rest, f, s, g)
	}
	was := calls()
	shape.TakeNum([]byte{18})
	shape.Nums([]byte{2}, 9)
	shape.TakeBlob([]byte{3, 1})
	shape.Unseal(make([]byte, 9))
	if now := calls(); now != was {
		t.Error(was, now)
	}
}

// R1: any bytes at all are taken or refused, by all that take.
func FuzzTake(f *testing.F) {
	sealed, _ := shape.Seal([]byte("sealed"))
	f.Add([]byte{}, 1)
	f.Add(sealed, 3)
	f.Add(shape.Num(nil, math.MinInt64, 0, 300), -1)
	f.Add(shape.Num(nil, math.MaxInt64), math.MaxInt)
	f.Fuzz(func(t *testing.T, b []byte, n int) {
		if x, size, e := shape.TakeNum(b); e == api.OK && !bytes.Equal(shape.Num(nil, x), b[:size]) {
			t.Error(b, x, size)
		}
		if d, size, e := shape.TakeBlob(b); e == api.OK && !bytes.Equal(shape.Blob(nil, d), b[:size]) {
			t.Error(b, d, size)
		}
		if d, size, e := shape.Unseal(b); e == api.OK {
			if s, g := shape.Seal(d); g != api.OK || !bytes.Equal(s, b[:size]) {
				t.Error(b, d, size)
			}
		}
		l, rest, e := shape.Nums(b, n)
		if e == api.OK && (len(l) != max(n, 0) || !bytes.Equal(shape.Num(nil, l...), b[:len(b)-len(rest)])) || e != api.OK && (len(l) != 0 || !bytes.Equal(rest, b)) {
			t.Error(b, n, l, rest, e)
		}
	})
}
