package journal_test

import (
	"math/rand"
	"slices"
	"testing"

	"trivet/api"
	"trivet/flash"
	"trivet/journal"
)

// scene is a log, with what its records are and which of its region's blocks are its.
type scene struct {
	f       *flash.Flash
	r       api.Region
	l       *journal.Log
	first   int64
	records [][]byte // from first on
}

// scenes are logs at whose next pages a record comes to a block's or the ring's end, with and without records, with blocks that were used before.
func scenes(t *testing.T) map[string]func() *scene {
	begin := func(blocks int, first int64) *scene {
		f := made(t, blocks+2)
		r := api.Region{From: 1, Blocks: blocks}
		return &scene{f: f, r: r, l: opened(t, f, r, first), first: first}
	}
	put := func(s *scene, sizes ...int) {
		for _, n := range sizes {
			b := slices.Repeat([]byte{byte(n), byte(len(s.records)), 7}, n/3+1)[:n]
			puts(t, s.l, b)
			s.records = append(s.records, b)
		}
	}
	trim := func(s *scene, n int) {
		s.first += int64(n)
		s.records = s.records[n:]
		same(t, s.l.Trim(s.first), api.OK)
	}
	return map[string]func() *scene{
		"empty":                  func() *scene { return begin(3, 0) },
		"empty, from 9 on":       func() *scene { return begin(2, 9) },
		"some records":           func() *scene { s := begin(3, 0); put(s, 3, 0, 450); return s },
		"ahead of a block's end": func() *scene { s := begin(3, 5); put(s, 2700, 3); return s },
		"at a block's end":       func() *scene { s := begin(3, 0); put(s, 3200); return s },
		"ahead of the ring's end": func() *scene {
			s := begin(3, 0)
			put(s, 3300, 1000, 1000, 3, 3, 3000, 3)
			trim(s, 3)
			return s
		},
		"in the second round": func() *scene {
			s := begin(2, 0)
			for range 7 {
				put(s, 900, 3)
				trim(s, 2)
			}
			put(s, 3)
			return s
		},
		"trimmed to nothing": func() *scene { s := begin(2, 0); put(s, 900, 3, 2000); trim(s, 3); return s },
	}
}

// sure fails the test, unless a log that is opened from n on has the scene's records, and besides at most the one that was not answered. It tells whether that one is there.
func (s *scene) sure(t *testing.T, n int64, more []byte) (*journal.Log, bool) {
	t.Helper()
	l := opened(t, s.f, s.r, n)
	want := s.records[n-s.first:]
	extra := l.Next() != n+int64(len(want))
	if extra {
		want = append(slices.Clip(want), more)
	}
	holds(t, l, n, want...)
	return l, extra
}

// changes is how many changes an Append of b is.
func (s *scene) changes(t *testing.T, b []byte) int {
	t.Helper()
	for n := 1; ; n++ {
		f := s.f.Clone()
		same(t, f.SetFuse(n, 0), api.OK)
		if _, e := opened(t, f, s.r, s.first).Append(b...); e == api.OK {
			return n - 1
		}
	}
}

// P5.5, G3: the power goes at each change within an Append, leaving nothing, something torn, or all: opened with each first from First() to Next(), all that was answered for is there, and at most the one that was not, whole; and what is appended then is there, too, behind it.
func TestPowerCuts(t *testing.T) {
	for name, make := range scenes(t) {
		for _, size := range []int{0, 1, 200, 201, 1500, 3150} {
			b := slices.Repeat([]byte{255, byte(size)}, size)[:size]
			if pages := max(1, (size+199)/200); pages > make().l.Room() {
				continue
			}
			all := make().changes(t, b)
			for change := 1; change <= all; change++ {
				for keep := range 3 {
					s := make()
					same(t, s.f.SetFuse(change, keep), api.OK)
					if n, e := s.l.Append(b...); n != 0 || e != api.ErrDown {
						t.Fatal(name, size, change, keep, n, e)
					}
					holds(t, s.l, s.first, s.records...)
					same(t, s.f.Restart(), api.OK)
					there := 0
					for n := s.first; n <= s.first+int64(len(s.records)); n++ {
						if _, extra := s.sure(t, n, b); extra {
							there++
						}
					}
					last := change == all && keep == 2
					if last != (there == len(s.records)+1) || !last && there > 0 {
						t.Error(name, size, "cut at", change, "keep", keep, "is there", there, "times")
					}
					s.goesOn(t, b)
				}
			}
		}
	}
}

// goesOn appends to what is found again, and opens it once more.
func (s *scene) goesOn(t *testing.T, more []byte) {
	t.Helper()
	l, extra := s.sure(t, s.first, more)
	if extra {
		s.records = append(s.records, more)
	}
	for _, b := range [][]byte{{1, 2, 3}, filled(300)} {
		if l.Room() < 2 {
			same(t, l.Trim(l.Next()), api.OK)
			s.first, s.records = l.Next(), nil
		}
		puts(t, l, b)
		s.records = append(s.records, b)
	}
	holds(t, l, s.first, s.records...)
	holds(t, opened(t, s.f, s.r, s.first), s.first, s.records...)
}

// P5.5, P5.6: through many rounds, with the power going again and again, also right behind a restart, and with the log trimmed now and then, nothing that was answered for is lost, and what Room has let be erased was the log's no more.
func TestManyPowerCuts(t *testing.T) {
	for seed := range int64(60) {
		draw := rand.New(rand.NewSource(seed))
		s := &scene{f: made(t, 6), r: api.Region{From: 1, Blocks: 2 + draw.Intn(3)}}
		s.l = opened(t, s.f, s.r, 0)
		for range 300 {
			b := filled(draw.Intn(1 + draw.Intn(3000)))
			if len(b) > 0 {
				b[0] = byte(draw.Intn(256))
			}
			if draw.Intn(3) == 0 {
				same(t, s.f.SetFuse(1+draw.Intn(6), draw.Intn(3)), api.OK)
			}
			_, e := s.l.Append(b...)
			switch e {
			case api.OK:
				s.records = append(s.records, b)
			case api.ErrFull:
				n := draw.Intn(len(s.records) + 1)
				s.first, s.records = s.first+int64(n), s.records[n:]
				same(t, s.l.Trim(s.first), api.OK)
			case api.ErrDown:
				same(t, s.f.Restart(), api.OK)
				n := draw.Intn(len(s.records) + 1)
				l, extra := s.sure(t, s.first+int64(n), b)
				s.l, s.first, s.records = l, s.first+int64(n), s.records[n:]
				if extra {
					s.records = append(s.records, b)
				}
			default:
				t.Fatal(e)
			}
			holds(t, s.l, s.first, s.records...)
			c := s.f.Clone()
			holds(t, opened(t, c, s.r, s.first), s.first, s.records...)
		}
	}
}
