package flash

import "trivet/api"

// What is left of a change within which the power goes.
const (
	keepNone = 0
	keepTorn = 1
	keepAll  = 2
	keeps    = 3
)

// fuse is how many changes are left until the power goes, that one counted (0: there is no fuse), and what is left of that change.
type fuse struct {
	count int
	keep  int
}

// SetFuse lets the power go within the count-th change from now on.
func (f *Flash) SetFuse(count, keep int) api.Errno {
	if e := f.ready(); e != api.OK {
		return e
	}
	if count < 1 {
		return api.ErrArg
	}
	f.fuse = fuse{count, (keep%keeps + keeps) % keeps} // keep % keeps is below 0 where keep is
	return api.OK
}

// Crash takes the power at once.
func (f *Flash) Crash() api.Errno {
	if e := f.ready(); e != api.OK {
		return e
	}
	f.fall()
	return api.OK
}

// Restart gives the power back.
func (f *Flash) Restart() api.Errno {
	switch {
	case !f.made():
		return api.ErrMade
	case !f.down:
		return api.ErrArg
	}
	f.down = false
	return api.OK
}

// Down tells whether the power is gone.
func (f *Flash) Down() bool {
	return f.made() && f.down
}

// change is a Program or an Erase that no error forbids: put is handed what its pages become, which is something else than asked for where the power goes within it.
func (f *Flash) change(to content, put func(content)) api.Errno {
	keep, goes := f.burn()
	switch {
	case !goes || keep == keepAll:
		put(to)
	case keep == keepTorn:
		put(content{state: torn})
	}
	if !goes {
		return api.OK
	}
	f.fall()
	return api.ErrDown
}

// burn counts a change, and tells whether the power goes within it, and what is left of it then.
func (f *Flash) burn() (int, bool) {
	if f.fuse.count == 0 {
		return 0, false
	}
	f.fuse.count--
	return f.fuse.keep, f.fuse.count == 0
}

// fall takes the power, and the fuse with it.
func (f *Flash) fall() {
	f.down, f.fuse = true, fuse{}
}
