package keeper_test

import (
	"math/rand"
	"slices"
	"testing"

	"trivet/api"
	"trivet/flash"
	"trivet/keeper"
)

// step is a call that writes, and the beginnings of it that may be there behind a crash within it.
type step struct {
	do         func(k *keeper.Keeper) api.Errno
	beginnings []func(k *keeper.Keeper) api.Errno
}

func votes(term int64, who int) step {
	return step{do: func(k *keeper.Keeper) api.Errno { return k.Vote(term, who) }}
}

// appends is an Append, so far ahead of the log's end.
func appends(ahead int64, l ...api.Termed) step {
	part := func(n int) func(k *keeper.Keeper) api.Errno {
		return func(k *keeper.Keeper) api.Errno { return k.Append(k.Length()-ahead, l[:n]...) }
	}
	s := step{do: part(len(l))}
	for n := 1; n < len(l); n++ {
		s.beginnings = append(s.beginnings, part(n))
	}
	return s
}

// checkpoints is a Checkpoint of so many slots more.
func checkpoints(more int64, data []byte) step {
	return step{do: func(k *keeper.Keeper) api.Errno { return k.Checkpoint(k.First()+more, data) }}
}

// installs is an Install of a checkpoint that is so far behind what is chosen, the log going on from it or not.
func installs(more int64, goesOn bool, data []byte) step {
	return step{do: func(k *keeper.Keeper) api.Errno {
		last, _ := k.TermAt(k.Upto() + more - 1)
		if !goesOn {
			last++
		}
		return k.Install(api.Saved{Slot: k.Upto() + more, Last: last, Data: data})
	}}
}

// scene is a keeper at some point, and its flash.
type scene struct {
	f *flash.Flash
	k *keeper.Keeper
}

// twin is the same on a flash of its own.
func (s scene) twin(t testing.TB) scene {
	t.Helper()
	f := s.f.Clone()
	k := opened(t, f)
	must(t, k.Commit(s.k.Upto()))
	return scene{f, k}
}

// behind is what is kept behind a call.
func (s scene) behind(t testing.TB, do func(k *keeper.Keeper) api.Errno) kept {
	t.Helper()
	w := s.twin(t)
	must(t, do(w.k))
	return keptOf(t, w.k)
}

// scenes are keepers at whose next pages a call comes to a block's or the ring's end, with and without a checkpoint, behind crashes.
func scenes(t testing.TB) map[string]scene {
	t.Helper()
	build := func(l ...step) scene {
		f, k := fresh(t, 8)
		for _, s := range l {
			must(t, s.do(k))
			must(t, k.Commit(max(k.Upto(), k.Length()-4)))
		}
		return scene{f, k}
	}
	six := appends(0, batch(1, 1), none(1), batch(1, 3), batch(2, 4), wide(t, 2, 2), batch(3, 6))
	saved := []step{six, votes(3, 1), checkpoints(2, filled(700)), appends(0, batch(3, 7), batch(4, 8))}
	torn := func(s scene, count int) scene {
		must(t, s.f.SetFuse(count, 1))
		same(t, s.k.Checkpoint(s.k.Upto(), filled(900)), api.ErrDown)
		must(t, s.f.Restart())
		w := scene{s.f, opened(t, s.f)}
		must(t, w.k.Commit(w.k.Length()-4))
		return w
	}
	round := build(saved...)
	for n := range int64(30) {
		must(t, round.k.Append(round.k.Length(), batch(5+n, n)))
		must(t, round.k.Commit(round.k.Length()-4))
		must(t, round.k.Checkpoint(round.k.Upto(), filled(int(n*100))))
	}
	return map[string]scene{
		"new":                    build(),
		"a log":                  build(six),
		"at a block's end":       build(six, appends(0, slices.Repeat([]api.Termed{none(4)}, 9)...)),
		"a checkpoint":           build(saved...),
		"two checkpoints":        build(append(saved, checkpoints(1, filled(3000)))...),
		"round and round":        round,
		"behind a torn base":     torn(build(saved...), 1),
		"behind torn entries":    torn(build(saved...), 4),
		"behind a torn save":     torn(build(saved...), 8),
		"behind a torn save, ii": torn(build(append(saved, checkpoints(1, filled(3000)))...), 9),
	}
}

func steps(t testing.TB) map[string]step {
	t.Helper()
	return map[string]step{
		"vote":                votes(90, 2),
		"no vote":             votes(91, -1),
		"append":              appends(0, batch(60, 1)),
		"append several":      appends(0, batch(60, 1), wide(t, 60, 3), none(60), none(61)),
		"append of some more": appends(2, batch(60, 1), none(60), wide(t, 60, 2), batch(61, 1)),
		"append instead":      appends(3, none(50)),
		"checkpoint":          checkpoints(1, filled(2000)),
		"checkpoint of two":   checkpoints(2, nil),
		"install, some stays": installs(2, true, filled(300)),
		"install":             installs(3, false, filled(6000)),
		"install far behind":  installs(40, false, nil),
	}
}

// P9.6, P9.7, G3: the power goes at each change within each call, leaving nothing, something torn, or all: opened again, all is as it was ahead of the call or as it is behind it, or, of an Append of several, behind a beginning; and it goes on from that.
func TestPowerCuts(t *testing.T) {
	cuts := 0
	for where, s := range scenes(t) {
		for what, x := range steps(t) {
			if w := s.twin(t); x.do(w.k) != api.OK {
				continue // not from here
			}
			before, after := keptOf(t, s.k), s.behind(t, x.do)
			may := []kept{before, after}
			for _, do := range x.beginnings {
				may = append(may, s.behind(t, do))
			}
			for change := 1; ; change++ {
				ended := false
				for keep := range 3 {
					w := s.twin(t)
					must(t, w.f.SetFuse(change, keep))
					e := x.do(w.k)
					if ended = e == api.OK; ended {
						must(t, w.f.Crash())
						may = []kept{after}
					} else {
						same(t, e, api.ErrDown)
						same(t, w.k.Broken(), true)
					}
					must(t, w.f.Restart())
					w.k = opened(t, w.f)
					got := keptOf(t, w.k)
					if !slices.Contains(may, got) {
						t.Fatalf("%s, %s, cut at %d, keep %d: %+v, not one of %+v", where, what, change, keep, got, may)
					}
					w.goesOn(t, x)
					cuts++
				}
				if ended {
					break
				}
			}
		}
	}
	if cuts < 2000 {
		t.Error("only", cuts)
	}
}

// goesOn does the call again, behind one more crash, and others behind it.
func (s scene) goesOn(t *testing.T, x step) {
	t.Helper()
	was := keptOf(t, s.k)
	must(t, s.f.SetFuse(1, 1))
	if e := s.k.Vote(1<<30, 3); e != api.ErrDown {
		t.Fatal(e)
	}
	must(t, s.f.Restart())
	s.k = opened(t, s.f)
	if got := keptOf(t, s.k); got != was {
		t.Fatalf("behind another crash: %+v, not %+v", got, was)
	}
	for _, do := range []func(k *keeper.Keeper) api.Errno{
		x.do,
		func(k *keeper.Keeper) api.Errno { return k.Append(k.Length(), none(99)) },
		func(k *keeper.Keeper) api.Errno { return k.Vote(100, 1) },
		func(k *keeper.Keeper) api.Errno { return k.Commit(k.Length()) },
		func(k *keeper.Keeper) api.Errno { return k.Checkpoint(k.Length(), []byte("z")) },
	} {
		do(s.k) // which may refuse it, as it is done already
		same(t, s.k.Broken(), false)
		again(t, s.f, s.k)
	}
	same(t, s.k.Term(), 100)
	same(t, s.k.Length(), s.k.First())
}

// drawnStep is a call with what mostly may be.
func drawnStep(t testing.TB, draw *rand.Rand, k *keeper.Keeper) step {
	switch draw.Intn(10) {
	case 0, 1:
		return votes(k.Term()+int64(draw.Intn(2)), draw.Intn(6)-1)
	case 2, 3, 4, 5, 6:
		var l []api.Termed
		for range 1 + draw.Intn(4) {
			l = append(l, wide(t, k.Last()%200+int64(draw.Intn(2)), 1+draw.Intn(2)*draw.Intn(3)))
		}
		return appends(min(k.Length()-k.Upto(), int64(draw.Intn(2)*draw.Intn(4))), l...)
	case 7, 8:
		return checkpoints(k.Upto()-k.First(), filled(draw.Intn(4000)))
	}
	return installs(1+draw.Int63n(4), draw.Intn(2) == 0, filled(draw.Intn(4000)))
}

// P9.6, P9.7: runs of drawn calls, the power going again and again: behind each crash all is as behind the last call that answered OK, or behind the one that did not answer.
func TestManyPowerCuts(t *testing.T) {
	crashes, far := 0, 0
	for seed := range int64(40) {
		draw := rand.New(rand.NewSource(seed))
		f, k := fresh(t, 8+draw.Intn(5))
		s := scene{f, k}
		for range 150 {
			x := drawnStep(t, draw, s.k)
			before := keptOf(t, s.k)
			may := []kept{before}
			for _, do := range append(x.beginnings, x.do) {
				if w := s.twin(t); do(w.k) == api.OK {
					may = append(may, keptOf(t, w.k))
				}
			}
			after := may[len(may)-1]
			if draw.Intn(3) == 0 {
				must(t, f.SetFuse(1+draw.Intn(10), draw.Intn(3)))
			}
			switch e := x.do(s.k); e {
			case api.OK:
				may = []kept{after}
			case api.ErrDown:
			default:
				may = []kept{before}
			}
			if !f.Down() && draw.Intn(4) > 0 {
				if !slices.Contains(may, keptOf(t, s.k)) {
					t.Fatal("seed", seed, "not as it is to be")
				}
				s.k.Commit(s.k.Length() - int64(draw.Intn(4)))
				must(t, f.SetFuse(1<<30, 0)) // a fuse that is left would be in the way of twins
				continue
			}
			crashes++
			f.Crash()
			must(t, f.Restart())
			s.k = opened(t, f)
			if got := keptOf(t, s.k); !slices.Contains(may, got) {
				t.Fatalf("seed %d: %+v, not one of %+v", seed, got, may)
			}
			s.k.Commit(s.k.Length() - int64(draw.Intn(4)))
		}
		if s.k.First() > 20 {
			far++
		}
	}
	if crashes < 1000 || far < 15 {
		t.Error(crashes, far)
	}
}
