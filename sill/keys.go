package sill

import (
	"slices"

	"sill/api"
)

// goingKey is a key that is going on. It does until the last window that an
// event of it is in has ended: the others end sooner.
type goingKey struct {
	key string
	end int64
}

// placeOf is -1 for a key that is not going on.
func (f *Flow) placeOf(key string) int {
	return slices.IndexFunc(f.keys, func(g goingKey) bool { return g.key == key })
}

func (f *Flow) isFullFor(key string) bool {
	return len(f.keys) >= f.config.Keys && f.placeOf(key) < 0
}

// keep takes an event into its windows.
func (f *Flow) keep(i api.Item) {
	end := f.lastEnd(i.Time)
	k := f.placeOf(i.Key)
	if k < 0 {
		f.keys = append(f.keys, goingKey{key: i.Key, end: end})
		return
	}
	f.keys[k].end = max(f.keys[k].end, end)
}

// lastEnd is where the last window ends that a time is in.
func (f *Flow) lastEnd(time int64) int64 {
	return downTo(time, f.config.Slide) + f.config.Size
}

// dropFinished drops the keys of which every window is finished.
func (f *Flow) dropFinished() {
	f.keys = slices.DeleteFunc(f.keys, func(g goingKey) bool { return g.end <= f.line.time })
}

// downTo is the greatest multiple of step that is not above time.
func downTo(time, step int64) int64 {
	over := time % step
	if over < 0 {
		over += step
	}
	return time - over
}
