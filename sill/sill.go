// Package sill: sliding windows over events: see DOC.md.
package sill

import "sill/api"

// Frame makes an item's bytes (P3).
func Frame(i api.Item) ([]byte, api.Errno) {
	if !isItem(i) {
		return nil, api.ErrItem
	}
	body := bodyOf(i)
	b := append([]byte{byte(len(body))}, body...)
	return appendLow(b, uint64(check(body)), checkSize), api.OK
}

// Unframe reads the item that bytes begin with, and tells how many bytes it has (P3).
func Unframe(b []byte) (api.Item, int, api.Errno) {
	if len(b) == 0 {
		return api.Item{}, 0, api.OK
	}
	bodyEnd := 1 + int(b[0])
	end := bodyEnd + checkSize
	// A body that is wrong already is no error before its check is there (P3).
	if len(b) < end {
		return api.Item{}, 0, api.OK
	}
	body := b[1:bodyEnd]
	if readLow(b[bodyEnd:end]) != uint64(check(body)) {
		return api.Item{}, 0, api.ErrItem
	}
	i, ok := itemOf(body)
	if !ok {
		return api.Item{}, 0, api.ErrItem
	}
	return i, end, api.OK
}

// Flow is windows over the events of some sources.
type Flow struct{}

// New makes a flow (P4).
func New(c api.Config) (*Flow, api.Errno) { return nil, api.OK }

// Open opens a source (P5).
func (f *Flow) Open(source int) api.Errno { return api.OK }

// Feed gives a flow bytes from a source (P5, P6).
func (f *Flow) Feed(source int, b []byte) api.Errno { return api.OK }

// Close closes a source (P5).
func (f *Flow) Close(source int) api.Errno { return api.OK }

// Line tells the line behind which all is told; false: there is none (P7).
func (f *Flow) Line() (int64, bool) { return 0, false }

// Take tells the windows that have been finished since it was asked last (P8).
func (f *Flow) Take() []api.Window { return nil }

// Counts tells what has come (P6).
func (f *Flow) Counts() api.Counts { return api.Counts{} }
