package sill

import (
	"cmp"
	"slices"

	"sill/api"
)

// isFinished holds of the window that begins at start, if there is an event in
// it: then there is a line, too.
func (f *Flow) isFinished(start int64) bool {
	return start+f.config.Size <= f.line.time
}

// takeFinished makes the windows only now, of panes: an event may be in
// thousands of them, and is in one pane.
func (f *Flow) takeFinished() []api.Window {
	var out []api.Window
	for _, r := range f.ended {
		out = f.slide(out, r)
	}
	for _, r := range f.going {
		out = f.slide(out, r)
	}
	f.ended = nil
	slices.SortFunc(out, byEndAndKey)
	return out
}

// byEndAndKey asks for the starts: all windows are as long.
func byEndAndKey(a, b api.Window) int {
	return cmp.Or(cmp.Compare(a.Start, b.Start), cmp.Compare(a.Key, b.Key))
}

// slide moves the window of a run over all that are finished, and puts them
// behind out.
func (f *Flow) slide(out []api.Window, r *run) []api.Window {
	for len(r.panes) > 0 {
		start := r.nextStart()
		if !f.isFinished(start) {
			break
		}
		r.enterAt(start)
		out = append(out, told(r.key, start, r.parts))
		r.next = start + f.config.Slide
		r.leaveAt(r.next)
	}
	return out
}

// nextStart passes over windows without an event, however many there are.
func (r *run) nextStart() int64 {
	if r.inside > 0 {
		return r.next
	}
	return r.panes[0].first
}

func (r *run) enterAt(start int64) {
	for r.inside < len(r.panes) && r.panes[r.inside].first <= start {
		for _, p := range r.parts {
			p.enter(r.panes[r.inside])
		}
		r.inside++
	}
}

func (r *run) leaveAt(start int64) {
	for r.inside > 0 && r.panes[0].last < start {
		for _, p := range r.parts {
			p.leave(r.panes[0])
		}
		r.panes[0] = nil // it would stay in memory ahead of the slice
		r.panes = r.panes[1:]
		r.inside--
	}
}
