package sill

import (
	"cmp"

	"sill/api"
)

// windows are those that begin at first, at last, and between them.
type windows struct {
	first, last int64
}

// windowsOf are all that a time is in.
func windowsOf(c api.Config, time int64) windows {
	return windows{
		first: downTo(time-c.Size, c.Slide) + c.Slide,
		last:  downTo(time, c.Slide),
	}
}

// compare orders windows as the times that are in them: of a later time
// neither first nor last is sooner.
func (w windows) compare(other windows) int {
	return cmp.Or(cmp.Compare(w.first, other.first), cmp.Compare(w.last, other.last))
}

// downTo is the greatest multiple of step that is not above time.
func downTo(time, step int64) int64 {
	over := time % step
	if over < 0 {
		over += step
	}
	return time - over
}
