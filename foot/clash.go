package foot

import (
	"iter"
	"slices"

	"trivet/api"
)

// Clash tells whether two transactions stand in each other's way.
func Clash(a, b api.Txn) bool {
	theirs := map[api.Key]api.Lock{}
	for _, y := range Locks(b) {
		theirs[y.Key] = y
	}
	for _, x := range Locks(a) {
		if y, both := theirs[x.Key]; both && (x.Excl || y.Excl) {
			return true
		}
	}
	return false
}

// Order goes through the pairs of places whose transactions clash, by the later one, then the earlier one.
func Order(l ...api.Txn) iter.Seq2[int, int] {
	wants := make([][]api.Lock, len(l)) // an iterator tells what was there when it was asked for
	for k, t := range l {
		wants[k] = Locks(t)
	}
	return func(yield func(int, int) bool) {
		a := ahead{by: map[api.Key]askers{}, met: make([]int, len(wants))}
		for k, want := range wants {
			for _, i := range a.clashing(k, want) {
				if !yield(i, k) {
					return
				}
			}
			a.add(k, want)
		}
	}
}

// askers are the places that want a key: all of them, and those that want it alone.
type askers struct{ all, alone []int }

// ahead is what the places so far want, by keys: so those that clash are found without asking each of the others, most of which may not.
type ahead struct {
	by  map[api.Key]askers
	met []int // by places, the last one that was found to clash with it; the place 0 has none ahead, so 0 is none
}

// clashing is the places so far, rising, that clash with the place k, the next one.
func (a ahead) clashing(k int, want []api.Lock) []int {
	var l []int
	for _, x := range want {
		who := a.by[x.Key].alone
		if x.Excl {
			who = a.by[x.Key].all
		}
		for _, i := range who {
			if a.met[i] != k {
				a.met[i] = k
				l = append(l, i)
			}
		}
		if len(l) == k { // nobody is left to be found, however many keys are
			break
		}
	}
	slices.Sort(l)
	return l
}

// add puts the place k behind those so far.
func (a ahead) add(k int, want []api.Lock) {
	for _, x := range want {
		who := a.by[x.Key]
		who.all = append(who.all, k)
		if x.Excl {
			who.alone = append(who.alone, k)
		}
		a.by[x.Key] = who
	}
}

// least is the least level that the next one who wants a key may have: shared, or alone.
type least struct{ shared, alone int }

// Levels is the level of each place. Levels are kept by keys, for the pairs that clash may be far more than the places.
func Levels(l ...api.Txn) []int {
	var out []int
	by := map[api.Key]least{}
	for _, t := range l {
		want := Locks(t)
		level := levelOf(by, want)
		raise(by, want, level+1)
		out = append(out, level)
	}
	return out
}

// levelOf is the level of one that wants these locks.
func levelOf(by map[api.Key]least, want []api.Lock) int {
	level := 0
	for _, x := range want {
		if x.Excl {
			level = max(level, by[x.Key].alone)
		} else {
			level = max(level, by[x.Key].shared)
		}
	}
	return level
}

// raise takes those that come behind such locks, and clash, to a level at least.
func raise(by map[api.Key]least, want []api.Lock, level int) {
	for _, x := range want {
		n := by[x.Key]
		n.alone = max(n.alone, level)
		if x.Excl {
			n.shared = level // which is above all that there was, for it clashes with each of them
		}
		by[x.Key] = n
	}
}
