package sill

import (
	"testing"

	"sill/api"
)

func fed(t *testing.T, f *Flow, source int, items ...api.Item) {
	t.Helper()
	for _, i := range items {
		b, e := Frame(i)
		if e != api.OK {
			t.Fatalf("Frame(%+v): %d", i, e)
		}
		if e := f.Feed(source, b); e != api.OK {
			t.Fatalf("Feed(%d): %d", source, e)
		}
	}
}

// What is kept does not grow with what has come.
func TestNoMoreIsKeptThanIsNeeded(t *testing.T) {
	f, _ := New(api.Config{Size: 10, Slide: 5, Late: 2, Keys: 3})
	f.Open(0)
	item, _ := Frame(api.Item{Kind: api.Mark})
	long := make([]byte, 0, 1<<16)
	for len(long) < 1<<15 {
		long = append(long, item...)
	}
	f.Feed(0, append(long, item[:5]...))
	if s := f.sources[0]; len(s.unread) != 5 || cap(s.unread) > 64 {
		t.Errorf("5 bytes were not read, kept are %d in room for %d", len(s.unread), cap(s.unread))
	}
	f.Feed(0, item[5:])
	if s := f.sources[0]; len(s.unread) != 0 || cap(s.unread) > 64 {
		t.Errorf("all was read, kept are %d bytes in room for %d", len(s.unread), cap(s.unread))
	}
	for time := range int64(1000) {
		key := string([]byte{byte(time % 7)})
		fed(t, f, 0, api.Item{Kind: api.Event, Key: key, Time: 3 * time})
		if len(f.going) > 3 || cap(f.going) > 2*api.MaxKeys {
			t.Fatalf("%d keys are kept, in room for %d", len(f.going), cap(f.going))
		}
	}
	fed(t, f, 0, api.Item{Kind: api.Mark, Time: 5000})
	if len(f.going) != 0 {
		t.Errorf("%d keys are kept, and none is going on", len(f.going))
	}
}

// Of a window that was told, and of nothing but such, nothing is kept; of events
// that are in the same windows one pane is.
func TestKeptOfWindows(t *testing.T) {
	f, _ := New(api.Config{Size: 7, Slide: 3, Keys: 2})
	f.Open(0)
	for time := range int64(300) {
		for tag := range uint32(10) {
			fed(t, f, 0, api.Item{Kind: api.Event, Key: "a", Time: time, Tag: uint32(time)*10 + tag})
		}
		f.Take()
		r := f.going[0]
		if len(f.going) != 1 || f.ended != nil || len(r.panes) > 6 || cap(r.panes) > 30 {
			t.Fatalf("at %d are kept: %d panes, in room for %d; going: %d, ended: %d", time, len(r.panes), cap(r.panes), len(f.going), len(f.ended))
		}
		wantKeptOfParts(t, r)
	}
	for range 3 {
		fed(t, f, 0, api.Item{Kind: api.Mark, Time: 1000})
		if f.Take(); len(f.going) != 0 || f.ended != nil {
			t.Errorf("all was told, going: %d, ended: %d", len(f.going), len(f.ended))
		}
	}
}

func wantKeptOfParts(t *testing.T, r *run) {
	t.Helper()
	count, tags := 0, 0
	for _, p := range r.panes[:r.inside] {
		count += p.count
		tags += len(p.tags)
	}
	for _, p := range r.parts {
		switch p := p.(type) {
		case *total:
			if p.count != count {
				t.Errorf("of %d events %d are kept", count, p.count)
			}
		case *bounds:
			if len(p.came)+len(p.going) != r.inside {
				t.Errorf("of %d panes %d and %d are kept", r.inside, len(p.came), len(p.going))
			}
		case tagCounts:
			if len(p) != tags {
				t.Errorf("of %d tags %d are kept", tags, len(p))
			}
		default:
			t.Errorf("a part of no kind: %T", p)
		}
	}
}

// Windows that nobody takes cost no more than their panes.
func TestUntakenWindowsArePanes(t *testing.T) {
	f, _ := New(api.Config{Size: 4096, Slide: 1, Keys: 1})
	f.Open(0)
	for k := range int64(50) {
		for range 5 {
			fed(t, f, 0, api.Item{Kind: api.Event, Key: "a", Time: 10000 * k})
		}
	}
	panes := 0
	for _, r := range append(f.ended, f.going...) {
		panes += len(r.panes)
	}
	if panes != 50 {
		t.Errorf("%d panes are kept of events at 50 times", panes)
	}
	if l := f.Take(); len(l) != 49*4096 {
		t.Errorf("%d windows", len(l))
	}
}

func TestNothingIsKeptOfBrokenAndClosed(t *testing.T) {
	f, _ := New(api.Config{Size: 10, Slide: 5, Keys: 1})
	f.Open(0)
	fed(t, f, 0, api.Item{Kind: api.Mark, Time: 1})
	f.Feed(0, []byte{9, 2})
	f.Feed(0, make([]byte, 1000))
	f.Feed(0, make([]byte, 1000))
	if s := f.sources[0]; !s.open || !s.broken || s.unread != nil || s.latest.is {
		t.Errorf("of a broken source is kept: %+v", s)
	}
	f.Close(0)
	if s := f.sources[0]; s.open || s.broken || s.unread != nil || s.latest.is {
		t.Errorf("of a closed source is kept: %+v", s)
	}
}

func TestDownTo(t *testing.T) {
	for step := int64(1); step < 8; step++ {
		for time := int64(-40); time <= 40; time++ {
			got := downTo(time, step)
			if got%step != 0 || got > time || got <= time-step {
				t.Errorf("downTo(%d, %d) = %d", time, step, got)
			}
		}
	}
}

// windowsOf is held against every start there is.
func TestWindowsOf(t *testing.T) {
	for size := int64(1); size < 12; size++ {
		for slide := int64(1); slide <= size; slide++ {
			c := api.Config{Size: size, Slide: slide}
			before := windowsOf(c, -41)
			for time := int64(-40); time <= 40; time++ {
				got := windowsOf(c, time)
				for start := int64(-90); start <= 90; start++ {
					is := start%slide == 0 && start <= time && time <= start+size-1
					if is != (start%slide == 0 && got.first <= start && start <= got.last) {
						t.Fatalf("windowsOf(%d, %d, %d) = %+v, and %d", size, slide, time, got, start)
					}
				}
				if before.compare(got) > 0 || got.last < before.last || got.compare(got) != 0 || got != before && got.compare(before) <= 0 {
					t.Fatalf("windows of %d, %+v, stand ahead of %+v", time, got, before)
				}
				before = got
			}
		}
	}
}

func TestCommonDivisor(t *testing.T) {
	for a := int64(1); a < 40; a++ {
		for b := int64(1); b < 40; b++ {
			want := int64(1)
			for d := int64(1); d <= a; d++ {
				if a%d == 0 && b%d == 0 {
					want = d
				}
			}
			if got := commonDivisor(a, b); got != want {
				t.Errorf("commonDivisor(%d, %d) = %d, want %d", a, b, got, want)
			}
		}
	}
}
