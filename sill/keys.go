package sill

import (
	"slices"

	"sill/api"
)

// run is a key from the event on with which it began to go on. It is going on
// until its last window is finished, and is kept until that is taken.
type run struct {
	key    string
	panes  []*pane // by their windows: those that are in one that was not taken
	inside int     // how many of panes are in the window that begins at next
	next   int64   // of no meaning if no pane is inside
	parts  []part  // of the panes that are inside
}

// placeOf is -1 for a key that is not going on.
func (f *Flow) placeOf(key string) int {
	return slices.IndexFunc(f.going, func(r *run) bool { return r.key == key })
}

func (f *Flow) isFullFor(key string) bool {
	return len(f.going) >= f.config.Keys && f.placeOf(key) < 0
}

// keep takes an event into its windows.
func (f *Flow) keep(i api.Item) {
	f.runOf(i.Key).paneOf(windowsOf(f.config, i.Time)).add(i)
}

// runOf makes a run if the key is not going on: what it was before has no
// window with an event that comes now.
func (f *Flow) runOf(key string) *run {
	k := f.placeOf(key)
	if k < 0 {
		k = len(f.going)
		f.going = append(f.going, &run{key: key, parts: newParts()})
	}
	return f.going[k]
}

// endRuns puts away the keys that are not going on any more. While one is, the
// last of its panes is there.
func (f *Flow) endRuns() {
	isEnded := func(r *run) bool { return f.isFinished(r.panes[len(r.panes)-1].last) }
	for _, r := range f.going {
		if isEnded(r) {
			f.ended = append(f.ended, r)
		}
	}
	f.going = slices.DeleteFunc(f.going, isEnded)
}
