package sill

import (
	"slices"

	"sill/api"
)

// sender is what a flow keeps of a source. Of one that is not open nothing is
// kept, of a broken one only that it is.
type sender struct {
	open, broken bool
	unread       []byte // less than a whole item
	latest       moment // of what its reach is made of (P7)
}

func isSource(source int) bool {
	return source >= 0 && source < api.MaxSources
}

func (f *Flow) openSource(source int) (*sender, api.Errno) {
	if !isSource(source) {
		return nil, api.ErrSource
	}
	s := &f.sources[source]
	if !s.open {
		return nil, api.ErrOpen
	}
	return s, api.OK
}

// read does the items that b makes whole, and keeps what is left.
func (f *Flow) read(s *sender, b []byte) {
	if s.broken {
		return
	}
	left := slices.Concat(s.unread, b)
	for {
		i, n, e := Unframe(left)
		if e != api.OK {
			f.breakOff(s)
			return
		}
		if n == 0 {
			break
		}
		f.do(s, i)
		left = left[n:]
	}
	// A copy, so that what was read does not stay in memory with it.
	s.unread = append([]byte(nil), left...)
}

func (f *Flow) breakOff(s *sender) {
	*s = sender{open: true, broken: true}
	f.counts.broken.Add(1)
	f.moveLine()
}
