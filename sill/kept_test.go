package sill

import (
	"testing"

	"sill/api"
)

func fed(t *testing.T, f *Flow, source int, items ...api.Item) {
	t.Helper()
	for _, i := range items {
		b, e := Frame(i)
		if e != api.OK {
			t.Fatalf("Frame(%+v): %d", i, e)
		}
		if e := f.Feed(source, b); e != api.OK {
			t.Fatalf("Feed(%d): %d", source, e)
		}
	}
}

// What is kept does not grow with what has come.
func TestNoMoreIsKeptThanIsNeeded(t *testing.T) {
	f, _ := New(api.Config{Size: 10, Slide: 5, Late: 2, Keys: 3})
	f.Open(0)
	item, _ := Frame(api.Item{Kind: api.Mark})
	long := make([]byte, 0, 1<<16)
	for len(long) < 1<<15 {
		long = append(long, item...)
	}
	f.Feed(0, append(long, item[:5]...))
	if s := f.sources[0]; len(s.unread) != 5 || cap(s.unread) > 64 {
		t.Errorf("5 bytes were not read, kept are %d in room for %d", len(s.unread), cap(s.unread))
	}
	f.Feed(0, item[5:])
	if s := f.sources[0]; len(s.unread) != 0 || cap(s.unread) > 64 {
		t.Errorf("all was read, kept are %d bytes in room for %d", len(s.unread), cap(s.unread))
	}
	for time := range int64(1000) {
		key := string([]byte{byte(time % 7)})
		fed(t, f, 0, api.Item{Kind: api.Event, Key: key, Time: 3 * time})
		if len(f.keys) > 3 || cap(f.keys) > 2*api.MaxKeys {
			t.Fatalf("%d keys are kept, in room for %d", len(f.keys), cap(f.keys))
		}
	}
	fed(t, f, 0, api.Item{Kind: api.Mark, Time: 5000})
	if len(f.keys) != 0 {
		t.Errorf("%d keys are kept, and none is going on", len(f.keys))
	}
}

func TestNothingIsKeptOfBrokenAndClosed(t *testing.T) {
	f, _ := New(api.Config{Size: 10, Slide: 5, Keys: 1})
	f.Open(0)
	fed(t, f, 0, api.Item{Kind: api.Mark, Time: 1})
	f.Feed(0, []byte{9, 2})
	f.Feed(0, make([]byte, 1000))
	f.Feed(0, make([]byte, 1000))
	if s := f.sources[0]; !s.open || !s.broken || s.unread != nil || s.latest.is {
		t.Errorf("of a broken source is kept: %+v", s)
	}
	f.Close(0)
	if s := f.sources[0]; s.open || s.broken || s.unread != nil || s.latest.is {
		t.Errorf("of a closed source is kept: %+v", s)
	}
}

func TestDownTo(t *testing.T) {
	for step := int64(1); step < 8; step++ {
		for time := int64(-40); time <= 40; time++ {
			got := downTo(time, step)
			if got%step != 0 || got > time || got <= time-step {
				t.Errorf("downTo(%d, %d) = %d", time, step, got)
			}
		}
	}
}

func TestCommonDivisor(t *testing.T) {
	for a := int64(1); a < 40; a++ {
		for b := int64(1); b < 40; b++ {
			want := int64(1)
			for d := int64(1); d <= a; d++ {
				if a%d == 0 && b%d == 0 {
					want = d
				}
			}
			if got := commonDivisor(a, b); got != want {
				t.Errorf("commonDivisor(%d, %d) = %d, want %d", a, b, got, want)
			}
		}
	}
}
