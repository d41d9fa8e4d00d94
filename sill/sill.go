// Package sill: sliding windows over events: see DOC.md.
package sill

import (
	"sync"

	"sill/api"
)

// Frame makes an item's bytes (P3).
func Frame(i api.Item) ([]byte, api.Errno) {
	if !isItem(i) {
		return nil, api.ErrItem
	}
	body := bodyOf(i)
	b := append([]byte{byte(len(body))}, body...)
	return appendLow(b, uint64(check(body)), checkSize), api.OK
}

// Unframe reads the item that bytes begin with, and tells how many bytes it has (P3).
func Unframe(b []byte) (api.Item, int, api.Errno) {
	if len(b) == 0 {
		return api.Item{}, 0, api.OK
	}
	bodyEnd := 1 + int(b[0])
	end := bodyEnd + checkSize
	// A body that is wrong already is no error before its check is there (P3).
	if len(b) < end {
		return api.Item{}, 0, api.OK
	}
	body := b[1:bodyEnd]
	if readLow(b[bodyEnd:end]) != uint64(check(body)) {
		return api.Item{}, 0, api.ErrItem
	}
	i, ok := itemOf(body)
	if !ok {
		return api.Item{}, 0, api.ErrItem
	}
	return i, end, api.OK
}

// Flow is windows over the events of some sources. Several goroutines may use
// it at a time.
type Flow struct {
	lock    sync.Mutex // held by each call, for all that stands below
	config  api.Config
	sources [api.MaxSources]sender
	line    moment
	going   []*run // one for each key that is going on
	ended   []*run // of keys that were, with windows that were not taken yet
	counts  counts
}

// New makes a flow (P4).
func New(c api.Config) (*Flow, api.Errno) {
	if !isConfig(c) {
		return nil, api.ErrConfig
	}
	return &Flow{config: c}, api.OK
}

// Open opens a source (P5).
func (f *Flow) Open(source int) api.Errno {
	f.lock.Lock()
	defer f.lock.Unlock()
	if !isSource(source) {
		return api.ErrSource
	}
	s := &f.sources[source]
	if s.open {
		return api.ErrOpen
	}
	// The line stays: a source that nothing was read of has no reach (P7).
	s.open = true
	return api.OK
}

// Feed gives a flow bytes from a source (P5, P6).
func (f *Flow) Feed(source int, b []byte) api.Errno {
	f.lock.Lock()
	defer f.lock.Unlock()
	s, e := f.openSource(source)
	if e != api.OK {
		return e
	}
	f.read(s, b)
	return api.OK
}

// Close closes a source (P5).
func (f *Flow) Close(source int) api.Errno {
	f.lock.Lock()
	defer f.lock.Unlock()
	s, e := f.openSource(source)
	if e != api.OK {
		return e
	}
	*s = sender{}
	f.moveLine()
	return api.OK
}

// Line tells the line behind which all is told; false: there is none (P7).
func (f *Flow) Line() (int64, bool) {
	f.lock.Lock()
	defer f.lock.Unlock()
	return f.line.time, f.line.is
}

// Take tells the windows that have been finished since it was asked last (P8).
func (f *Flow) Take() []api.Window {
	f.lock.Lock()
	defer f.lock.Unlock()
	return f.takeFinished()
}

// Counts tells what has come (P6).
func (f *Flow) Counts() api.Counts {
	// Not without the lock: six numbers, read one by one while a Feed runs, may
	// be those of no moment between two calls (P2).
	f.lock.Lock()
	defer f.lock.Unlock()
	return f.counts.told()
}
