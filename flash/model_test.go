package flash_test

import (
	"bytes"
	"math/rand"
	"slices"
	"testing"

	"trivet/api"
	"trivet/flash"
)

// model is what the chapter says, word by word: pages that are not there are blank, those with no bytes torn.
type model struct {
	blocks int
	pages  map[place][]byte
	wear   map[int]int64
	count  int
	keep   int
	down   bool
}

func (m *model) wrong(at place) bool {
	return at.block < 0 || at.block >= m.blocks || at.page < 0 || at.page >= 16
}

// within does a change, by the fuse: how its pages are torn, and how it is done.
func (m *model) within(tear, do func()) api.Errno {
	if m.count == 0 {
		do()
		return api.OK
	}
	if m.count--; m.count > 0 {
		do()
		return api.OK
	}
	switch m.down = true; (m.keep%3 + 3) % 3 {
	case 1:
		tear()
	case 2:
		do()
	}
	return api.ErrDown
}

func (m *model) program(at place, b []byte) api.Errno {
	_, used := m.pages[at]
	switch {
	case m.down:
		return api.ErrDown
	case m.wrong(at) || len(b) > 256:
		return api.ErrArg
	case used:
		return api.ErrUsed
	}
	return m.within(func() { m.pages[at] = nil }, func() { m.pages[at] = full(b) })
}

func (m *model) erase(block int) api.Errno {
	switch {
	case m.down:
		return api.ErrDown
	case m.wrong(place{block, 0}):
		return api.ErrArg
	}
	return m.within(func() {
		for p := range 16 {
			m.pages[place{block, p}] = nil
		}
		m.wear[block]++
	}, func() {
		for p := range 16 {
			delete(m.pages, place{block, p})
		}
		m.wear[block]++
	})
}

func (m *model) read(at place) ([]byte, api.Errno) {
	b, used := m.pages[at]
	switch {
	case m.down:
		return nil, api.ErrDown
	case m.wrong(at):
		return nil, api.ErrArg
	case !used:
		return nil, api.ErrBlank
	case b == nil:
		return nil, api.ErrTorn
	}
	return b, api.OK
}

func (m *model) spoil(at place, n int, with byte) api.Errno {
	b, e := m.read(at)
	switch {
	case m.down || m.wrong(at):
		return e
	case n < 0 || n >= 256:
		return api.ErrArg
	case e == api.OK:
		b[n] ^= with
	}
	return e
}

func (m *model) setFuse(count, keep int) api.Errno {
	switch {
	case m.down:
		return api.ErrDown
	case count < 1:
		return api.ErrArg
	}
	m.count, m.keep = count, keep
	return api.OK
}

func (m *model) crash() api.Errno {
	if m.down {
		return api.ErrDown
	}
	m.down, m.count = true, 0
	return api.OK
}

func (m *model) restart() api.Errno {
	if !m.down {
		return api.ErrArg
	}
	m.down = false
	return api.OK
}

// alike fails the test, if anything that can be read of a flash is not as in the model.
func (m *model) alike(t *testing.T, f *flash.Flash) {
	t.Helper()
	var l []place
	for b := -1; b <= m.blocks; b++ {
		n := 0
		for p := -1; p <= 16; p++ {
			at := place{b, p}
			want, e := m.read(at)
			if got, g := f.Read(b, p); g != e || !bytes.Equal(got, want) {
				t.Fatal(at, got, g, "not", want, e)
			}
			if _, used := m.pages[at]; used {
				n++
				l = append(l, at)
			}
		}
		if f.Wear(b) != m.wear[b] || f.Used(b) != n {
			t.Fatal(b, f.Wear(b), f.Used(b))
		}
	}
	if f.Down() != m.down || f.Blocks() != m.blocks || !slices.Equal(list(f.All()), l) {
		t.Fatal(f.Down(), f.Blocks(), list(f.All()), l)
	}
}

// step does the same to both, drawn so that places that are not there, and pages that are used, come often.
func step(draw *rand.Rand, f *flash.Flash, m *model) (got, want api.Errno) {
	at := place{draw.Intn(m.blocks+2) - 1, draw.Intn(18) - 1}
	switch draw.Intn(24) {
	case 0:
		return f.Crash(), m.crash()
	case 1, 2, 3:
		return f.Restart(), m.restart()
	case 4, 5:
		count, keep := draw.Intn(7)-1, draw.Intn(9)-4
		return f.SetFuse(count, keep), m.setFuse(count, keep)
	case 6, 7:
		n, with := draw.Intn(270)-7, byte(draw.Intn(256))
		return f.Spoil(at.block, at.page, n, with), m.spoil(at, n, with)
	case 8, 9:
		return f.Erase(at.block), m.erase(at.block)
	}
	b := make([]byte, draw.Intn(260))
	draw.Read(b)
	return f.Program(at.block, at.page, b), m.program(at, b)
}

// P2.1 to P2.4, P2.6: any calls one behind the other do what the chapter says, in all that can be read; a clone goes on as the flash itself would have.
func TestAgainstTheModel(t *testing.T) {
	for seed := range int64(30) {
		draw := rand.New(rand.NewSource(seed))
		blocks := 1 + draw.Intn(4)
		f, m := made(t, blocks), &model{blocks: blocks, pages: map[place][]byte{}, wear: map[int]int64{}}
		for i := range 400 {
			left := f.Clone()
			if !flash.Same(left, f) {
				t.Fatal(seed, i)
			}
			if i%7 == 0 {
				f, left = left, f
			}
			was, text := left.Clone(), ""
			if i%40 == 0 {
				text = told(left)
			}
			if got, want := step(draw, f, m); got != want {
				t.Fatal(seed, i, got, want)
			}
			if !flash.Same(left, was) || i%40 == 0 && told(left) != text {
				t.Fatal(seed, i, "a clone was changed")
			}
			m.alike(t, f)
		}
	}
}

// P2.5, P2.7: what Program has answered OK for is read as it was, whatever crashes follow, till its block is asked to be erased; a page that has something is not programmed again.
func TestOnceAndSure(t *testing.T) {
	const blocks = 3
	for seed := range int64(60) {
		draw := rand.New(rand.NewSource(seed))
		f, sure := made(t, blocks), map[place][]byte{}
		for range 500 {
			b, p := draw.Intn(blocks), draw.Intn(16)
			switch draw.Intn(20) {
			case 0:
				f.Crash()
			case 1:
				f.SetFuse(1+draw.Intn(5), draw.Intn(3))
			case 2:
				if !f.Down() { // within it, even if it is not done
					for p := range 16 {
						delete(sure, place{b, p})
					}
				}
				f.Erase(b)
			default:
				_, first := f.Read(b, p)
				x := []byte{byte(draw.Intn(256)), byte(draw.Intn(256))}
				e := f.Program(b, p, x)
				if e == api.OK {
					sure[place{b, p}] = x
				}
				if first == api.OK && e != api.ErrUsed || first == api.ErrTorn && e != api.ErrUsed || first == api.ErrBlank && e != api.OK && e != api.ErrDown {
					t.Fatal(seed, b, p, first, e)
				}
			}
			if f.Down() {
				ok(t, f.Restart())
			}
			for at, x := range sure {
				reads(t, f, at.block, at.page, x)
			}
		}
		if len(sure) == 0 {
			t.Error(seed, "nothing was sure: the test says nothing")
		}
	}
}
