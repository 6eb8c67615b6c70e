package serial

import (
	"slices"
	"testing"

	"trivet/api"
)

// Tests of what no calls come to in any time: these machines are made by hand.

var key = api.Key{Table: 1, Row: 2}

// puts is a request that writes 7 to the key, and answers it.
func puts(session, request int64) api.Txn {
	code := []byte{api.InConst, 0, 7, 0, api.InStore, 0, 0, api.InOut, 0}
	return api.Txn{Session: session, Request: request, Code: code, Writes: []api.Key{key}}
}

// late is a machine with that slot, and with a row of the session 3 that has that request.
func late(slot, request int64) *Serial {
	s := New()
	s.slot = slot
	s.rows[3] = api.Row{Session: 3, Request: request, Result: api.Result{Values: []int64{5}, Slot: 4}}
	return s
}

// P17.2, R2: at the slot MaxTime each entry is refused, and changes nothing; one below is done.
func TestLastSlot(t *testing.T) {
	for _, e := range []api.Entry{{}, {Kind: 2}, {Kind: api.EnBatch}, {Kind: api.EnBatch, Txns: []api.Txn{puts(3, 8), puts(3, 9), puts(4, 1)}}} {
		s := late(api.MaxTime, 8)
		for range 3 {
			l, err := s.Apply(e)
			if l != nil || err != api.ErrFull || s.Slot() != api.MaxTime {
				t.Error(l, err, s.Slot())
			}
			if _, is := s.Get(key); is || len(s.Rows()) != 1 || s.Rows()[0].Request != 8 {
				t.Error(s.Rows())
			}
		}
		s = late(api.MaxTime-1, 8)
		l, err := s.Apply(e)
		if len(l) != len(e.Txns) || err != api.OK || s.Slot() != api.MaxTime {
			t.Error(l, err, s.Slot())
		}
		if l, err = s.Apply(e); l != nil || err != api.ErrFull {
			t.Error(l, err)
		}
		if c, is := s.Get(key); is != (len(e.Txns) > 0) || is && c != (api.Cell{Key: key, Value: 7, Slot: api.MaxTime - 1}) {
			t.Error(c, is)
		}
		if m := s.Clone(); m.Slot() != api.MaxTime {
			t.Error(m.Slot())
		}
	}
}

// P17.2: the request MaxTime may come next; none comes behind it, but it is answered again.
func TestLastRequest(t *testing.T) {
	ask := func(s *Serial, request int64, want ...int64) {
		t.Helper()
		l, err := s.Apply(api.Entry{Kind: api.EnBatch, Txns: []api.Txn{puts(3, request)}})
		if err != api.OK || len(want) == 0 && len(l) != 0 {
			t.Error(l, err)
		}
		if len(want) > 0 && (len(l) != 1 || l[0].Request != request || !slices.Equal(l[0].Result.Values, want)) {
			t.Error(l)
		}
	}
	s := late(4, api.MaxTime-1)
	ask(s, api.MaxTime-1, 5)
	ask(s, api.MaxTime+1)
	ask(s, api.MaxTime, 7)
	ask(s, api.MaxTime, 7)
	ask(s, api.MaxTime-1)
	ask(s, api.MaxTime+1)
	ask(s, 1)
	if l := s.Rows(); len(l) != 1 || l[0].Request != api.MaxTime || l[0].Result.Slot != 6 {
		t.Error(l)
	}
	s = late(4, api.MaxTime)
	ask(s, api.MaxTime, 5)
	ask(s, api.MaxTime+1)
	if _, is := s.Get(key); is {
		t.Error("it was done")
	}
}
