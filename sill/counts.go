package sill

import (
	"sync/atomic"

	"sill/api"
)

// counts are those of a flow, one number for each of api.Counts.
type counts struct {
	taken, late, outside, full, marks, broken atomic.Int64
}

func (c *counts) told() api.Counts {
	return api.Counts{
		Taken:  int(c.taken.Load()),
		Late:   int(c.late.Load()),
		Range:  int(c.outside.Load()),
		Full:   int(c.full.Load()),
		Marks:  int(c.marks.Load()),
		Broken: int(c.broken.Load()),
	}
}
