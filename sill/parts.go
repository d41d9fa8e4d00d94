package sill

import (
	"maps"
	"math"
	"slices"

	"sill/api"
)

// part is one kind of what is kept of the events in a window that slides.
// Panes come into it behind all others, and go from it in the same order.
type part interface {
	enter(p *pane)
	leave(p *pane)
}

func newParts() []part {
	return []part{&total{}, &bounds{}, tagCounts{}}
}

// told is the window that begins at start, if parts are of the events in it.
func told(key string, start int64, parts []part) api.Window {
	w := api.Window{Key: key, Start: start}
	for _, p := range parts {
		switch p := p.(type) {
		case *total:
			w.Count, w.Sum = p.count, p.sum
		case *bounds:
			values := p.whole()
			w.Min, w.Max = values.least, values.greatest
		case tagCounts:
			w.Tags = p.rising()
		}
	}
	return w
}

// total can be taken back: what goes is taken off again, sums that went round
// too.
type total struct {
	count int
	sum   int64
}

func (t *total) enter(p *pane) {
	t.count += p.count
	t.sum += p.sum
}

func (t *total) leave(p *pane) {
	t.count -= p.count
	t.sum -= p.sum
}

// bounds are the least and the greatest value. They cannot be taken back when
// a pane goes, so that they lie on two stacks of running results: the panes
// that came last, and, with the first one on top, those that go next.
type bounds struct {
	came, going stack
}

func (b *bounds) enter(p *pane) {
	b.came.push(p.values)
}

func (b *bounds) leave(*pane) {
	if len(b.going) == 0 {
		for len(b.came) > 0 {
			b.going.push(b.came.pop())
		}
	}
	b.going.pop()
}

func (b *bounds) whole() span {
	return b.came.whole().joined(b.going.whole())
}

// span is from the least to the greatest of some values.
type span struct {
	least, greatest int64
}

// noValues changes no span that it is joined with.
func noValues() span {
	return span{least: math.MaxInt64, greatest: math.MinInt64}
}

func (s span) joined(other span) span {
	return span{least: min(s.least, other.least), greatest: max(s.greatest, other.greatest)}
}

// stack has spans, each with what it makes with all below it.
type stack []level

type level struct {
	own, running span
}

func (s stack) whole() span {
	if len(s) == 0 {
		return noValues()
	}
	return s[len(s)-1].running
}

func (s *stack) push(own span) {
	*s = append(*s, level{own: own, running: s.whole().joined(own)})
}

func (s *stack) pop() span {
	last := len(*s) - 1
	own := (*s)[last].own
	*s = (*s)[:last]
	return own
}

// tagCounts has how many panes have each tag, to know when a tag goes with the
// last of them.
type tagCounts map[uint32]int

func (t tagCounts) enter(p *pane) {
	for tag := range p.tags {
		t[tag]++
	}
}

func (t tagCounts) leave(p *pane) {
	for tag := range p.tags {
		t[tag]--
		if t[tag] == 0 {
			delete(t, tag)
		}
	}
}

func (t tagCounts) rising() []uint32 {
	tags := slices.AppendSeq(make([]uint32, 0, len(t)), maps.Keys(t))
	slices.Sort(tags)
	return tags
}
