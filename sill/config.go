package sill

import "sill/api"

func isConfig(c api.Config) bool {
	return c.Slide >= 1 && c.Slide <= c.Size && c.Size <= api.MaxSize &&
		c.Size/commonDivisor(c.Size, c.Slide) <= api.MaxPanes &&
		c.Late >= 0 && c.Late <= maxLate &&
		c.Keys >= 1 && c.Keys <= api.MaxKeys
}

// maxLate is a number of its own in the document, if the same one as MaxSize.
const maxLate = 1 << 40

// commonDivisor is the greatest one of two numbers from 1 on.
func commonDivisor(a, b int64) int64 {
	for b != 0 {
		a, b = b, a%b
	}
	return a
}
