package keeper_test

import (
	"bytes"
	"slices"
	"testing"

	"trivet/api"
	"trivet/ckpt"
	"trivet/flash"
	"trivet/journal"
	"trivet/keeper"
	"trivet/record"
)

// numeral is a number as bytes, by hand: its length and its sign, then it itself, the lowest byte first.
func numeral(n int64) []byte {
	sign, u := byte(0), uint64(n)
	if n < 0 {
		sign, u = 1, -uint64(n)
	}
	b := []byte{0}
	for ; u > 0; u >>= 8 {
		b = append(b, byte(u))
	}
	b[0] = byte(2*(len(b)-1)) + sign
	return b
}

// blob is bytes with their length ahead.
func blob(b []byte) []byte { return slices.Concat(numeral(int64(len(b))), b) }

// numbers are numbers one behind the other.
func numbers(l ...int64) []byte {
	var b []byte
	for _, n := range l {
		b = append(b, numeral(n)...)
	}
	return b
}

// line is the record of an entry at a slot.
func line(slot int64, x api.Termed) []byte {
	form, _ := record.Entry(x.Entry)
	return slices.Concat(numbers(2, slot, x.Term), blob(form))
}

// parts are the regions of a flash: the checkpoint's and the journal's.
func parts(f *flash.Flash) (api.Region, api.Region) {
	n := f.Blocks() / 4 * 2
	return api.Region{From: 0, Blocks: n}, api.Region{From: n, Blocks: f.Blocks() - n}
}

// laid is a flash of 8 blocks with a checkpoint (if s has Data) and with records from the number first on.
func laid(t testing.TB, s api.Saved, first int64, records ...[]byte) *flash.Flash {
	t.Helper()
	f := made(t, 8)
	saves, ring := parts(f)
	if s.Data != nil {
		must(t, ckpt.Save(f, saves, s))
	}
	j, e := journal.Open(f, ring, first)
	must(t, e)
	for _, b := range records {
		_, e := j.Append(b...)
		must(t, e)
	}
	return f
}

// closed fails the test, unless Open answers this error, nothing beside it, and has written nothing.
func closed(t testing.TB, name any, f *flash.Flash, want api.Errno) {
	t.Helper()
	was := f.Clone()
	if k, e := keeper.Open(f); k != nil || e != want {
		t.Error(name, "answers", k, e, "not", want)
	}
	if f.Blocks() > 0 && !flash.Same(f, was) {
		t.Error(name, "Open has written")
	}
}

// P9.1, R5: a flash that no call made, and one of too few blocks.
func TestOpenFlash(t *testing.T) {
	closed(t, "nil", nil, api.ErrMade)
	closed(t, "a zero struct", &flash.Flash{}, api.ErrMade)
	for blocks := 1; blocks < 8; blocks++ {
		f := made(t, blocks)
		closed(t, blocks, f, api.ErrArg)
		same(t, f.Crash(), api.OK)
		closed(t, blocks, f, api.ErrArg) // ahead of what ckpt.Load says
	}
	for _, blocks := range []int{8, 9, 10, 11, 400} {
		f := made(t, blocks)
		same(t, f.Crash(), api.OK)
		closed(t, blocks, f, api.ErrDown)
		same(t, f.Restart(), api.OK)
		opened(t, f)
	}
}

// P9.1: how a flash is parted, whether four divides its blocks or not: the checkpoint and the journal's records stand in just their own regions, and these are wholly used.
func TestOpenParts(t *testing.T) {
	for blocks := 8; blocks <= 33; blocks++ {
		f, k := fresh(t, blocks)
		saves, ring := parts(f)
		for range 4 {
			must(t, k.Append(k.Length(), none(1)))
			for k.Vote(k.Term()+1, 3) == api.OK {
			}
			must(t, k.Commit(k.Length()))
			must(t, k.Checkpoint(k.Length(), filled(saves.Blocks/2*4096-100)))
			must(t, k.Vote(k.Term()+1, 3))
		}
		for b := range blocks {
			if f.Used(b) == 0 {
				t.Error(blocks, "blocks: nothing is in", b)
			}
		}
		s, has, e := ckpt.Load(f, saves)
		if !has || e != api.OK || s.Slot != k.First() {
			t.Error(blocks, "blocks: the checkpoint is", s.Slot, has, e)
		}
		first, _ := numberOf(s.Data)
		j, e := journal.Open(f, ring, first)
		must(t, e)
		n := 0
		for _, b := range j.Records() {
			if n == 0 && b[1] != 3 || n > 0 && b[1] != 1 {
				t.Fatal(blocks, "blocks: the record", n, "is", b)
			}
			n++
		}
		if n < 2 {
			t.Error(blocks, "blocks:", n, "records")
		}
		again(t, f, k)
	}
}

// numberOf is the number with which bytes begin, and what is behind it.
func numberOf(b []byte) (n int64, rest []byte) {
	k := int(b[0]) / 2
	for i := range k {
		n += int64(b[1+i]) << (8 * i)
	}
	if b[0]%2 == 1 {
		n = -n
	}
	return n, b[1+k:]
}

// P9.1: a checkpoint's Data is a number and a blob, and no more.
func TestOpenCheckpoint(t *testing.T) {
	base := numbers(3, 5, 2)
	for name, x := range map[string]struct {
		data []byte
		want api.Errno
	}{
		"nothing":                  {[]byte{}, api.ErrFlash},
		"a number alone":           {numbers(0), api.ErrFlash},
		"a long number alone":      {numbers(300), api.ErrFlash},
		"a number that is cut":     {[]byte{4, 1}, api.ErrFlash},
		"a number of another form": {[]byte{2, 0, 0}, api.ErrFlash},
		"no number":                {[]byte{99, 0}, api.ErrFlash},
		"a blob that is cut":       {slices.Concat(numbers(0), []byte{2, 3, 1, 2}), api.ErrFlash},
		"a blob's length cut":      {slices.Concat(numbers(0), []byte{2}), api.ErrFlash},
		"a blob below nought":      {slices.Concat(numbers(0), numbers(-1)), api.ErrFlash},
		"a byte more":              {slices.Concat(numbers(0), blob([]byte("ab")), []byte{0}), api.ErrFlash},
		"more, behind no bytes":    {slices.Concat(numbers(0), blob(nil), []byte{0}), api.ErrFlash},
		"both":                     {slices.Concat(numbers(0), blob([]byte("ab"))), api.OK},
		"both, of no bytes":        {slices.Concat(numbers(0), blob(nil)), api.OK},
		"a number below 0":         {slices.Concat(numbers(-1), blob(nil)), api.ErrArg}, // as journal.Open says
		"a number above MaxTime":   {slices.Concat(numbers(top+1), blob(nil)), api.ErrArg},
		"a number that is least":   {slices.Concat(numbers(-1<<63), blob(nil)), api.ErrArg},
		"below 0, and a byte more": {slices.Concat(numbers(-1), blob(nil), []byte{0}), api.ErrFlash},
		"behind all records":       {slices.Concat(numbers(1), blob(nil)), api.OK},
		"the last number":          {slices.Concat(numbers(top), blob(nil)), api.OK},
	} {
		f := laid(t, api.Saved{Slot: 7, Last: 4, Data: x.data}, 0, base)
		if x.want != api.OK {
			closed(t, name, f, x.want)
			continue
		}
		k := opened(t, f)
		s, has := k.State()
		_, rest := numberOf(x.data)
		_, data := numberOf(rest)
		same(t, has, true)
		same(t, savedText(s), savedText(api.Saved{Slot: 7, Last: 4, Data: data}))
		same(t, k.First(), 7)
		same(t, k.Upto(), 7)
		same(t, k.Length(), 7)
		same(t, k.Last(), 4)
		same(t, k.Term(), 5*int64(1-min(1, x.data[0]))) // of the number 0 alone the base counts
	}
}

// P9.1: what is no checkpoint of ckpt's is none; the newest one of two counts.
func TestOpenOtherBytes(t *testing.T) {
	f := made(t, 8)
	must(t, f.Program(0, 0, filled(256)))
	must(t, f.Program(2, 3, filled(256)))
	must(t, f.Program(5, 3, filled(256)))
	same(t, opened(t, f).Length(), 0)
	saves, _ := parts(f)
	must(t, ckpt.Save(f, saves, api.Saved{Slot: 3, Last: 1, Data: []byte{0, 0}}))
	same(t, opened(t, f).Length(), 3)
	must(t, ckpt.Save(f, saves, api.Saved{Slot: 2, Last: 1, Data: []byte{0, 0}}))
	same(t, opened(t, f).Length(), 2)
	must(t, ckpt.Save(f, saves, api.Saved{Slot: 4, Last: 1, Data: []byte{0}}))
	closed(t, "the newest one", f, api.ErrFlash)
}

// P9.1: records that are none of the three, and numbers of them that may not be.
func TestOpenRecords(t *testing.T) {
	zero := []byte{2, 1, 0} // an entry's blob: EnNone
	for name, x := range map[string]struct {
		b    []byte
		want api.Errno
	}{
		"nothing":                       {nil, api.ErrFlash},
		"a number alone":                {numbers(1), api.ErrFlash},
		"a kind 0":                      {numbers(0, 1, 1), api.ErrFlash},
		"a kind 4":                      {numbers(4, 1, 1), api.ErrFlash},
		"a kind 4, as an entry":         {slices.Concat(numbers(4, 0, 1), zero), api.ErrFlash},
		"a kind -1":                     {numbers(-1, 1, 1), api.ErrFlash},
		"a kind 257":                    {numbers(257, 1, 1), api.ErrFlash},
		"no number":                     {[]byte{99, 1, 1}, api.ErrFlash},
		"a vote":                        {numbers(1, 6, 3), api.OK},
		"a vote, none":                  {numbers(1, 6, 0), api.OK},
		"a vote, of the least":          {numbers(1, 0, 1), api.OK},
		"a vote, of the greatest":       {numbers(1, top, 5), api.OK},
		"a vote, two numbers":           {numbers(1, 6), api.ErrFlash},
		"a vote, cut":                   {[]byte{2, 1, 2, 6, 2}, api.ErrFlash},
		"a vote, a byte more":           {append(numbers(1, 6, 3), 0), api.ErrFlash},
		"a vote, four numbers":          {numbers(1, 6, 3, 1), api.ErrFlash},
		"a vote, a term below 0":        {numbers(1, -1, 3), api.ErrFlash},
		"a vote, a term above":          {numbers(1, top+1, 3), api.ErrFlash},
		"a vote, who -2":                {numbers(1, 6, -1), api.ErrFlash},
		"a vote, who 5":                 {numbers(1, 6, 6), api.ErrFlash},
		"a vote, who far above":         {numbers(1, 6, top), api.ErrFlash},
		"a base":                        {numbers(3, 6, 3), api.OK},
		"a base, none":                  {numbers(3, 6, 0), api.OK},
		"a base, of the greatest":       {numbers(3, top, 5), api.OK},
		"a base, a term below 0":        {numbers(3, -1, 3), api.ErrFlash},
		"a base, a term above":          {numbers(3, top+1, 3), api.ErrFlash},
		"a base, who -2":                {numbers(3, 6, -1), api.ErrFlash},
		"a base, who 5":                 {numbers(3, 6, 6), api.ErrFlash},
		"a base, a byte more":           {append(numbers(3, 6, 3), 0), api.ErrFlash},
		"a base, two numbers":           {numbers(3, 6), api.ErrFlash},
		"an entry":                      {line(9, batch(3, 1)), api.OK},
		"an entry of nothing":           {slices.Concat(numbers(2, 9, 3), zero), api.OK},
		"an entry, term 0":              {line(9, batch(0, 1)), api.OK},
		"an entry, the greatest term":   {line(9, batch(top, 1)), api.OK},
		"an entry, a term below 0":      {line(9, batch(-1, 1)), api.ErrFlash},
		"an entry, a term above":        {line(9, batch(top+1, 1)), api.ErrFlash},
		"an entry, a slot above":        {line(10, batch(3, 1)), api.ErrFlash},
		"an entry, a slot far above":    {line(top, batch(3, 1)), api.ErrFlash},
		"an entry, a slot above all":    {line(top+1, batch(3, 1)), api.ErrFlash},
		"an entry, a slot below 0":      {line(-1, batch(3, 1)), api.ErrFlash},
		"an entry, the least slot":      {line(-1<<63, batch(3, 1)), api.ErrFlash},
		"an entry, no blob":             {numbers(2, 9, 3), api.ErrFlash},
		"an entry, two numbers":         {numbers(2, 9), api.ErrFlash},
		"an entry, an empty blob":       {slices.Concat(numbers(2, 9, 3), []byte{0}), api.ErrFlash},
		"an entry, a blob that is cut":  {slices.Concat(numbers(2, 9, 3), []byte{2, 2, 0}), api.ErrFlash},
		"an entry, a blob below nought": {slices.Concat(numbers(2, 9, 3), numbers(-1)), api.ErrFlash},
		"an entry, a byte more":         {slices.Concat(numbers(2, 9, 3), zero, []byte{0}), api.ErrFlash},
		"an entry, a byte more in it":   {slices.Concat(numbers(2, 9, 3), blob([]byte{0, 0})), api.ErrFlash},
		"an entry of no kind":           {slices.Concat(numbers(2, 9, 3), blob([]byte{2, 2})), api.ErrFlash},
		"an entry that is cut":          {slices.Concat(numbers(2, 9, 3), blob([]byte{2, 1, 0})), api.ErrFlash},
		"an entry that may not be":      {slices.Concat(numbers(2, 9, 3), blob([]byte{2, 1, 0, 0, 0})), api.ErrFlash}, // a batch of none
		"below First":                   {line(6, batch(3, 1)), api.OK},
		"far below First":               {line(0, batch(3, 1)), api.OK},
		"below First, no entry":         {slices.Concat(numbers(2, 6, 3), blob([]byte{2, 2})), api.ErrFlash},
		"below First, a byte more":      {append(line(6, batch(3, 1)), 0), api.ErrFlash},
		"below First, a term above":     {line(6, batch(top+1, 1)), api.ErrFlash},
	} {
		// behind the log's slots 7 and 8, and ahead of one more vote
		f := laid(t, api.Saved{Slot: 7, Last: 4, Data: []byte{0, 0}}, 0,
			numbers(3, 5, 1), line(7, batch(4, 7)), line(8, batch(5, 8)), x.b)
		if x.want != api.OK {
			closed(t, name, f, x.want)
		} else {
			opened(t, f)
		}
		g := laid(t, api.Saved{}, 0, x.b)
		if first := x.want == api.OK && x.b[1] != 2 || bytes.Equal(x.b, line(0, batch(3, 1))); first {
			opened(t, g)
		} else {
			closed(t, name+", alone", g, api.ErrFlash)
		}
	}
}

// P9.1: what is told behind Open: terms and votes are those of the last vote or base, also if they fall; entries are put in order, and those below First are passed over.
func TestOpenTells(t *testing.T) {
	at7 := api.Saved{Slot: 7, Last: 4, Data: append([]byte{0}, blob([]byte("data"))...)}
	for name, x := range map[string]struct {
		s       api.Saved
		records [][]byte
		term    int64
		who     int
		voted   bool
		log     []api.Termed
	}{
		"a vote":                      {records: [][]byte{numbers(1, 6, 3)}, term: 6, who: 2, voted: true},
		"a vote for the first one":    {records: [][]byte{numbers(1, 6, 1)}, term: 6, voted: true},
		"a vote for none":             {records: [][]byte{numbers(1, 6, 0)}, term: 6},
		"a base":                      {records: [][]byte{numbers(3, 6, 5)}, term: 6, who: 4, voted: true},
		"several":                     {records: [][]byte{numbers(1, 6, 3), numbers(3, 7, 0), numbers(1, 7, 2)}, term: 7, who: 1, voted: true},
		"a base behind votes":         {records: [][]byte{numbers(1, 6, 3), numbers(3, 7, 0)}, term: 7},
		"terms that fall":             {records: [][]byte{numbers(1, 6, 3), numbers(1, 5, 2)}, term: 5, who: 1, voted: true},
		"entries":                     {records: [][]byte{line(0, none(1)), line(1, batch(1, 2))}, log: []api.Termed{none(1), batch(1, 2)}},
		"an entry again":              {records: [][]byte{line(0, batch(1, 1)), line(1, none(1)), line(0, batch(1, 9))}, log: []api.Termed{batch(1, 1), none(1)}},
		"another entry":               {records: [][]byte{line(0, batch(1, 1)), line(1, none(1)), line(0, batch(2, 9))}, log: []api.Termed{batch(2, 9)}},
		"another one of an older one": {records: [][]byte{line(0, batch(3, 1)), line(1, none(3)), line(0, batch(2, 9))}, log: []api.Termed{batch(2, 9)}},
		"entries below First":         {s: at7, records: [][]byte{numbers(3, 5, 0), line(0, none(1)), line(6, none(9)), line(7, none(5)), line(5, none(8)), line(8, none(6))}, term: 5, log: []api.Termed{none(5), none(6)}},
		"none but below First":        {s: at7, records: [][]byte{line(6, none(4))}},
	} {
		f := laid(t, x.s, 0, x.records...)
		k := opened(t, f)
		who, voted := k.Voted()
		if k.Term() != x.term || who != x.who || voted != x.voted {
			t.Error(name, "is", k.Term(), who, voted)
		}
		holds(t, f, k, x.s.Slot, x.log...)
		same(t, k.Upto(), x.s.Slot)
	}
}

// P9.1: an entry may stand at MaxTime, where a flash has one.
func TestOpenAtMaxTime(t *testing.T) {
	f := laid(t, api.Saved{Slot: top, Last: top, Data: []byte{0, 0}}, 0, line(top, none(top)))
	k := opened(t, f)
	holds(t, f, k, top, none(top))
	refuses(t, f, k, api.ErrSlot, func() api.Errno { return k.Append(top+1, none(top)) })
	refuses(t, f, k, api.ErrSlot, func() api.Errno { return k.Append(top, none(1)) })
	must(t, k.Commit(top+1))
	refuses(t, f, k, api.ErrSlot, func() api.Errno { return k.Install(api.Saved{Slot: top + 1}) })
	closed(t, "one more", laid(t, api.Saved{Slot: top, Last: top, Data: []byte{0, 0}}, 0, line(top, none(top)), line(top+1, none(top))), api.ErrFlash)
}

// P9.1: records ahead of the checkpoint's number do not count, whatever they are; those behind it do.
func TestOpenFromTheNumber(t *testing.T) {
	data := append(numbers(2), blob(nil)...)
	f := laid(t, api.Saved{Slot: 7, Last: 4, Data: data}, 0, []byte("no record"), numbers(1, 99, 1), numbers(3, 5, 0), line(7, none(5)))
	k := opened(t, f)
	same(t, k.Term(), 5)
	holds(t, f, k, 7, none(5))
	closed(t, "one behind", laid(t, api.Saved{Slot: 7, Last: 4, Data: data}, 0, numbers(3, 5, 0), numbers(1, 99, 1), []byte("no record")), api.ErrFlash)
	k = opened(t, laid(t, api.Saved{Slot: 7, Last: 4, Data: data}, 0, numbers(3, 5, 0)))
	same(t, k.Term(), 0)
	same(t, k.First(), 7)
}

// P9.3 to P9.5: the bytes of the records in the journal, and of the checkpoint's Data.
func TestBytes(t *testing.T) {
	f, k := fresh(t, 8)
	saves, ring := parts(f)
	must(t, k.Vote(300, 4))
	must(t, k.Append(0, none(5), api.Termed{Term: 300, Entry: api.Entry{Kind: api.EnBatch, From: 2, Number: 5, Txns: []api.Txn{{Session: 1, Request: 3}}}}))
	must(t, k.Vote(301, -1))
	must(t, k.Append(2, none(0)))
	want := [][]byte{
		{2, 1, 4, 44, 1, 2, 5},
		{2, 2, 0, 2, 5, 2, 1, 0},
		{2, 2, 2, 1, 4, 44, 1, 2, 16, 2, 1, 2, 2, 2, 5, 2, 1, 2, 1, 2, 3, 0, 0, 0, 0},
		{2, 1, 4, 45, 1, 0},
		{2, 2, 2, 2, 0, 2, 1, 0},
	}
	written := func(first int64) (l [][]byte) {
		j, e := journal.Open(f.Clone(), ring, first)
		must(t, e)
		for _, b := range j.Records() {
			l = append(l, b)
		}
		return l
	}
	if got := written(0); !slices.EqualFunc(got, want, bytes.Equal) {
		t.Error(got)
	}
	if _, has, _ := ckpt.Load(f, saves); has {
		t.Error("there is a checkpoint")
	}
	must(t, k.Commit(2))
	must(t, k.Checkpoint(1, []byte("ab")))
	must(t, k.Vote(301, 0))
	s, has, _ := ckpt.Load(f, saves)
	if !has || s.Slot != 1 || s.Last != 5 || !bytes.Equal(s.Data, []byte{2, 5, 2, 2, 97, 98}) {
		t.Error(s, has)
	}
	behind := [][]byte{{2, 3, 4, 45, 1, 0}, want[2], want[4], {2, 1, 4, 45, 1, 2, 1}}
	if got := written(5); !slices.EqualFunc(got, behind, bytes.Equal) {
		t.Error(got)
	}
	must(t, k.Install(api.Saved{Slot: 3, Last: 9, Data: nil})) // nothing stays
	s, _, _ = ckpt.Load(f, saves)
	if s.Slot != 3 || s.Last != 9 || !bytes.Equal(s.Data, []byte{2, 9, 0}) {
		t.Error(s)
	}
	if got := written(9); !slices.EqualFunc(got, [][]byte{{2, 3, 4, 45, 1, 2, 1}}, bytes.Equal) {
		t.Error(got)
	}
}
