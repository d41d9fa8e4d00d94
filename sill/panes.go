package sill

import (
	"slices"

	"sill/api"
)

// pane is what is kept of a key's events that are in the same windows. No
// window begins or ends within it, as within a pane of the greatest common
// divisor of Size and Slide, but there are never more than two to a Slide.
type pane struct {
	windows
	count  int
	sum    int64
	values span
	tags   map[uint32]struct{}
}

func newPane(w windows) *pane {
	return &pane{windows: w, values: noValues(), tags: map[uint32]struct{}{}}
}

func (p *pane) add(i api.Item) {
	p.count++
	p.sum += i.Value
	p.values = p.values.joined(span{least: i.Value, greatest: i.Value})
	p.tags[i.Tag] = struct{}{}
}

// paneOf makes the pane if there is none yet. An event that is taken comes
// behind the panes that are in the window: its own windows end above the line,
// those that slid by did not.
func (r *run) paneOf(w windows) *pane {
	k, is := slices.BinarySearchFunc(r.panes, w, func(p *pane, w windows) int { return p.compare(w) })
	if !is {
		r.panes = slices.Insert(r.panes, k, newPane(w))
	}
	return r.panes[k]
}
