package sill

import "sill/api"

// do does an item of a source (P6).
func (f *Flow) do(s *sender, i api.Item) {
	if i.Kind == api.Mark {
		f.counts.marks.Add(1)
		s.latest.raise(min(max(i.Time, -api.MaxTime), api.MaxTime))
	} else {
		f.doEvent(s, i)
	}
	f.moveLine()
}

func (f *Flow) doEvent(s *sender, i api.Item) {
	switch {
	case i.Time < -api.MaxTime || i.Time > api.MaxTime:
		f.counts.outside.Add(1)
	case f.line.is && i.Time < f.line.time:
		f.counts.late.Add(1)
		// What is late gives its source a reach all the same, and so may hold the line (P7).
		s.latest.raise(i.Time)
	case f.isFullFor(i.Key):
		f.counts.full.Add(1)
	default:
		f.counts.taken.Add(1)
		f.keep(i)
		s.latest.raise(i.Time)
	}
}
