package foot_test

import (
	"iter"
	"slices"
	"testing"

	"trivet/api"
	"trivet/foot"
)

// couple is two places that Order tells.
type couple struct{ i, k int }

func couples(l ...couple) []couple { return l }

// told is what an iterator over pairs tells.
func told(s iter.Seq2[int, int]) []couple {
	var l []couple
	for i, k := range s {
		l = append(l, couple{i, k})
	}
	return l
}

// P15.2: Clash of two that read, of a reader and a writer, of two writers, of no keys, and of a transaction and itself.
func TestClash(t *testing.T) {
	both := txn(keys(a), keys(a))
	for _, x := range []struct {
		a, b api.Txn
		want bool
	}{
		{api.Txn{}, api.Txn{}, false},
		{api.Txn{}, reading(a), false},
		{api.Txn{}, writing(a), false},
		{reading(a), reading(a), false},
		{reading(a, b, c), reading(c, b, a), false},
		{reading(a), writing(a), true},
		{writing(a), writing(a), true},
		{both, reading(a), true},
		{both, writing(a), true},
		{both, both, true},
		{reading(a), reading(b), false},
		{reading(a), writing(b), false},
		{writing(a), writing(b), false},
		{txn(keys(a), keys(b)), txn(keys(a), keys(c)), false},
		{txn(keys(a), keys(b)), txn(keys(a), keys(b)), true},
		{txn(keys(a), keys(b)), txn(keys(c), keys(a)), true},
		{txn(keys(a), keys(b)), txn(keys(b), keys(c)), true},
		{txn(keys(a), keys(b)), txn(keys(b), keys(a)), true},
		{txn(keys(a, b), keys(c)), txn(keys(b, a), keys(d)), false},
		{txn(keys(a, b, d), keys(c)), txn(keys(b, a), keys(d)), true},
		{reading(a, b, c, d), writing(d), true},
		{reading(d, c, b, a), writing(a), true},
		{reading(a, a), reading(a, a), false},
		{writing(a, a), reading(b, b, a), true},
		{txn(keys(a, b), keys(b)), reading(a), false},
		{txn(keys(a, b), keys(b)), reading(b), true},
		{reading(key(1, 2)), writing(key(1, 3)), false},
		{reading(key(1, 2)), writing(key(3, 2)), false},
		{reading(key(1, 2)), writing(key(2, 1)), false},
		{writing(key(minTable, minRow)), writing(key(minTable, maxRow)), false},
		{writing(key(minTable, minRow)), reading(key(maxTable, minRow)), false},
		{writing(key(minTable, minRow)), reading(key(minTable, minRow)), true},
		{writing(key(maxTable, maxRow)), reading(key(maxTable, maxRow)), true},
	} {
		if foot.Clash(x.a, x.b) != x.want {
			t.Errorf("%+v, %+v: not %v", x.a, x.b, x.want)
		}
		if foot.Clash(x.b, x.a) != x.want {
			t.Errorf("%+v, %+v: not %v the other way round", x.a, x.b, x.want)
		}
	}
}

// P15.2: a transaction and itself clash, if it writes a key, and not by Reads alone.
func TestClashWithItself(t *testing.T) {
	for _, x := range []api.Txn{{}, reading(a), reading(a, b, b)} {
		same(t, foot.Clash(x, x), false)
	}
	for _, x := range []api.Txn{writing(a), txn(keys(a), keys(a)), txn(keys(a), keys(b)), writing(a, b, b)} {
		same(t, foot.Clash(x, x), true)
	}
}

// P15.2: whose request it is, its code and its arguments are nothing to Clash.
func TestClashGoesByKeys(t *testing.T) {
	x := api.Txn{Session: 1, Request: 2, Code: []byte{1}, Args: []int64{3}, Writes: keys(a)}
	y := api.Txn{Session: 1, Request: 2, Code: []byte{1}, Args: []int64{3}, Writes: keys(b)}
	same(t, foot.Clash(x, y), false)
	same(t, foot.Clash(x, api.Txn{Session: 9, Reads: keys(a)}), true)
}

// P15.2, R4: Order of none, of one, of those that all clash or never do, of the same one several times: by k, then i.
func TestOrder(t *testing.T) {
	all := couples(couple{0, 1}, couple{0, 2}, couple{1, 2}, couple{0, 3}, couple{1, 3}, couple{2, 3})
	w := writing(a)
	for _, x := range []struct {
		l    []api.Txn
		want []couple
	}{
		{nil, nil},
		{[]api.Txn{}, nil},
		{[]api.Txn{w}, nil},
		{[]api.Txn{{}, {}, {}}, nil},
		{[]api.Txn{w, w}, couples(couple{0, 1})},
		{[]api.Txn{w, w, w, w}, all},
		{[]api.Txn{writing(a, b), writing(b, a), txn(keys(a, b), keys(b, a)), writing(b, a, b)}, all},
		{[]api.Txn{reading(a), reading(a), reading(a)}, nil},
		{[]api.Txn{writing(a), writing(b), writing(c), writing(d)}, nil},
		{[]api.Txn{txn(keys(a), keys(b)), txn(keys(a), keys(c)), txn(keys(a), keys(d))}, nil},
		{[]api.Txn{reading(a), reading(a), w, reading(a)}, couples(couple{0, 2}, couple{1, 2}, couple{2, 3})},
		{[]api.Txn{w, reading(a), reading(a), w}, couples(couple{0, 1}, couple{0, 2}, couple{0, 3}, couple{1, 3}, couple{2, 3})},
		{[]api.Txn{writing(a), writing(b), writing(b), writing(a)}, couples(couple{1, 2}, couple{0, 3})},
		{[]api.Txn{writing(b), writing(c), writing(a), writing(a, b, c)}, couples(couple{0, 3}, couple{1, 3}, couple{2, 3})},
		{[]api.Txn{writing(c), writing(b), writing(a), reading(a, b, c)}, couples(couple{0, 3}, couple{1, 3}, couple{2, 3})},
		{[]api.Txn{writing(b), {}, writing(a), txn(keys(b), keys(a)), reading(a, b)}, couples(couple{0, 3}, couple{2, 3}, couple{0, 4}, couple{2, 4}, couple{3, 4})},
		{[]api.Txn{txn(keys(a), keys(b)), txn(keys(b), keys(a))}, couples(couple{0, 1})},
		{[]api.Txn{writing(a, b), reading(a), reading(b), reading(a, b)}, couples(couple{0, 1}, couple{0, 2}, couple{0, 3})},
		{[]api.Txn{reading(a), reading(b), reading(a, b), writing(a, b)}, couples(couple{0, 3}, couple{1, 3}, couple{2, 3})},
	} {
		if got := told(foot.Order(x.l...)); !slices.Equal(got, x.want) {
			t.Errorf("%+v: %v, not %v", x.l, got, x.want)
		}
	}
}

// P15.2, R3: one who ranges over Order may leave at any point, and may range over it again, also within itself.
func TestOrderLeftAndDoneAgain(t *testing.T) {
	s := foot.Order(writing(a), txn(keys(a), keys(b)), reading(a, b), writing(b), writing(a, b))
	whole := couples(couple{0, 1}, couple{0, 2}, couple{1, 2}, couple{1, 3}, couple{2, 3}, couple{0, 4}, couple{1, 4}, couple{2, 4}, couple{3, 4})
	for many := 1; many <= len(whole); many++ {
		var l []couple
		for i, k := range s {
			l = append(l, couple{i, k})
			if len(l) == many {
				break
			}
		}
		sameList(t, l, whole[:many])
		sameList(t, told(s), whole)
	}
	for range s {
		sameList(t, told(s), whole)
	}
	sameList(t, told(s), whole)
	none := foot.Order()
	sameList(t, told(none), nil)
	sameList(t, told(none), nil)
}

// P15.2, R4: Levels of none, of one, of a chain, of ones that never clash, and of one that clashes with several of unlike levels.
func TestLevels(t *testing.T) {
	w := writing(a)
	for _, x := range []struct {
		l    []api.Txn
		want []int
	}{
		{nil, nil},
		{[]api.Txn{}, nil},
		{[]api.Txn{{}}, places(0)},
		{[]api.Txn{w}, places(0)},
		{[]api.Txn{{}, {}, {}}, places(0, 0, 0)},
		{[]api.Txn{w, w, w, w}, places(0, 1, 2, 3)},
		{[]api.Txn{reading(a), reading(a), reading(a)}, places(0, 0, 0)},
		{[]api.Txn{writing(d), writing(c), writing(b), writing(a)}, places(0, 0, 0, 0)},
		{[]api.Txn{writing(a), txn(keys(a), keys(b)), txn(keys(b), keys(c)), txn(keys(c), keys(d)), reading(d)}, places(0, 1, 2, 3, 4)},
		{[]api.Txn{reading(d), txn(keys(c), keys(d)), txn(keys(b), keys(c)), txn(keys(a), keys(b)), writing(a)}, places(0, 1, 2, 3, 4)},
		{[]api.Txn{reading(a), reading(a), w, reading(a), reading(a), w}, places(0, 0, 1, 2, 2, 3)},
		{[]api.Txn{w, w, w, writing(b), writing(a, b)}, places(0, 1, 2, 0, 3)},
		{[]api.Txn{writing(b), w, w, w, writing(a, b)}, places(0, 0, 1, 2, 3)},
		{[]api.Txn{w, w, writing(b), writing(b), writing(b), reading(a, b), reading(b, a), reading(a)}, places(0, 1, 0, 1, 2, 3, 3, 2)},
		{[]api.Txn{w, w, w, txn(keys(b), keys(c)), txn(keys(c), keys(b)), txn(keys(a), keys(b)), w}, places(0, 1, 2, 0, 1, 3, 4)},
		{[]api.Txn{writing(b), txn(keys(a, b), nil), txn(keys(a), nil), w, reading(a)}, places(0, 1, 0, 2, 3)},
		{[]api.Txn{writing(b), txn(keys(a), nil), txn(keys(a, b), nil), w, reading(a)}, places(0, 0, 1, 2, 3)},
		{[]api.Txn{w, {}, w, {}, writing(b), w}, places(0, 0, 1, 0, 0, 2)},
		{[]api.Txn{w, txn(keys(a, a), keys(a, a)), reading(a, a)}, places(0, 1, 2)},
	} {
		if got := foot.Levels(x.l...); !slices.Equal(got, x.want) {
			t.Errorf("%+v: %v, not %v", x.l, got, x.want)
		}
	}
}

// P15.3: what stands in front and clashes with nothing of a level may be put behind it: within a level any order has the same levels.
func TestLevelsOfOneLevelTurned(t *testing.T) {
	l := []api.Txn{writing(a), reading(b, c), writing(d), txn(keys(d), keys(a)), txn(keys(c), keys(b)), reading(b, a)}
	sameList(t, foot.Levels(l...), places(0, 0, 0, 1, 1, 2))
	turned := []api.Txn{l[2], l[0], l[1], l[4], l[3], l[5]}
	sameList(t, foot.Levels(turned...), places(0, 0, 0, 1, 1, 2))
}
