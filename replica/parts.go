package replica

import (
	"slices"

	"trivet/api"
)

// mostParts is how many parts of a checkpoint are kept at most.
const mostParts = 64

// coming is what has come of a checkpoint: its slot, of how many parts it is, these by their Index.
type coming struct {
	slot  int64
	many  int
	parts map[int][]byte
}

// takePart takes a part of the leader's checkpoint; with the last one the checkpoint takes the place of its own log's beginning.
func (r *member) takePart(m api.Msg) ([]api.Msg, api.Errno) {
	if m.Slot <= r.Upto() {
		return r.appended(m.From, true, m.Slot), api.OK
	}
	if m.Part.Many > mostParts || m.Part.Slot != m.Slot {
		return nil, api.OK
	}
	r.coming.add(m.Part)
	if !r.coming.whole() {
		return nil, api.OK
	}
	data := r.coming.data()
	r.coming = coming{}
	if e := r.Install(api.Saved{Slot: m.Slot, Last: m.Last, Data: data}); e != api.OK {
		return nil, r.fatal(e)
	}
	return r.appended(m.From, true, m.Slot), api.OK
}

// add keeps a part, with those of the same checkpoint alone.
func (c *coming) add(p api.Part) {
	if c.parts == nil || c.slot != p.Slot || c.many != p.Many {
		*c = coming{slot: p.Slot, many: p.Many, parts: map[int][]byte{}}
	}
	c.parts[p.Index] = slices.Clone(p.Data)
}

// whole tells whether all parts are there.
func (c *coming) whole() bool { return len(c.parts) == c.many }

// data is the parts' bytes, in order.
func (c *coming) data() []byte {
	var b []byte
	for i := range c.many {
		b = append(b, c.parts[i]...)
	}
	return b
}
