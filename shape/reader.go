package shape

import "trivet/api"

// giveUp is what a reader panics with: the error that the face answers.
type giveUp struct{ err api.Errno }

// reader goes through bytes from their beginning on. Where they say nothing it gives up by a panic, so that what is read of several parts needs to ask nowhere whether the parts ahead were good.
type reader struct {
	b  []byte
	at int
}

// take is what part reads of the beginning of b, and how many bytes that is; or the error with which it gave up.
func take[T any](b []byte, part func(*reader) T) (v T, size int, e api.Errno) {
	defer func() {
		x := recover()
		if g, ok := x.(giveUp); ok {
			e = g.err
		} else if x != nil {
			panic(x) // a fault of the program is not to pass as one of the bytes
		}
	}()
	r := &reader{b: b}
	v = part(r)
	return v, r.at, api.OK
}

// must gives up with e, unless what it is told holds.
func must(holds bool, e api.Errno) {
	if !holds {
		panic(giveUp{e})
	}
}

// next is the n bytes that follow, still the owner's.
func (r *reader) next(n int) []byte {
	must(n <= len(r.b)-r.at, api.ErrEnds)
	r.at += n
	return r.b[r.at-n : r.at]
}

// low is the number whose bytes are the k that follow, the lowest one first.
func (r *reader) low(k int) uint64 {
	u := uint64(0)
	for i, x := range r.next(k) {
		u |= uint64(x) << (8 * i)
	}
	return u
}

func (r *reader) number() int64 {
	head := int(r.next(1)[0])
	must(head <= maxHead && head != minusZero, api.ErrForm)
	k, below := head/2, head%2 == 1
	u := r.low(k)
	must(width(u) == k, api.ErrForm) // else its last byte is 0: it has a shorter form
	if below {
		must(u <= 1<<63, api.ErrForm)
		return int64(-u)
	}
	must(u < 1<<63, api.ErrForm)
	return int64(u)
}

// numbers makes no room ahead: n may be far above what the bytes hold.
func (r *reader) numbers(n int) []int64 {
	var l []int64
	for range n {
		l = append(l, r.number())
	}
	return l
}

func (r *reader) blob() []byte {
	n := r.number()
	must(n >= 0, api.ErrForm)
	must(n <= int64(len(r.b)-r.at), api.ErrEnds) // ahead of the conversion to int, which may be narrower
	return copied(r.next(int(n)), 0)
}

func (r *reader) sealed() []byte {
	n := r.number()
	must(n >= 0, api.ErrForm)
	must(n <= api.MaxBytes, api.ErrLong)
	b := r.next(int(n))
	sum := r.low(checkBytes) // ahead of the work of the check, which bytes that are cut are not worth
	must(sum == Check(b), api.ErrCheck)
	return copied(b, 0)
}
