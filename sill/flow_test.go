package sill_test

import (
	"bytes"
	"math"
	"strings"
	"sync"
	"testing"

	"sill/api"
	"sill/sill"
)

func newFlow(t *testing.T, c api.Config) *sill.Flow {
	t.Helper()
	f, e := sill.New(c)
	if f == nil || e != api.OK {
		t.Fatalf("New(%+v): %v, %d", c, f, e)
	}
	return f
}

// flowOf has those sources open.
func flowOf(t *testing.T, c api.Config, sources ...int) *sill.Flow {
	t.Helper()
	f := newFlow(t, c)
	for _, s := range sources {
		wantErrno(t, "Open", f.Open(s), api.OK)
	}
	return f
}

func wantErrno(t *testing.T, what string, got, want api.Errno) {
	t.Helper()
	if got != want {
		t.Fatalf("%s: %d, want %d", what, got, want)
	}
}

func joined(items ...api.Item) []byte {
	var b []byte
	for _, i := range items {
		b = append(b, bytesOf(i)...)
	}
	return b
}

func feed(t *testing.T, f *sill.Flow, source int, items ...api.Item) {
	t.Helper()
	wantErrno(t, "Feed", f.Feed(source, joined(items...)), api.OK)
}

func wantLine(t *testing.T, f *sill.Flow, want int64) {
	t.Helper()
	if got, is := f.Line(); got != want || !is {
		t.Errorf("Line = %d, %v, want %d", got, is, want)
	}
}

func wantNoLine(t *testing.T, f *sill.Flow) {
	t.Helper()
	if got, is := f.Line(); got != 0 || is {
		t.Errorf("Line = %d, %v, want none", got, is)
	}
}

func wantCounts(t *testing.T, f *sill.Flow, want api.Counts) {
	t.Helper()
	if got := f.Counts(); got != want {
		t.Errorf("Counts = %+v, want %+v", got, want)
	}
}

// wrongItem is all there, and no item: its check is another one.
func wrongItem() []byte {
	b := bytesOf(mark(1))
	b[len(b)-1] ^= 1
	return b
}

// P4: what is no configuration.
func TestNewRefuses(t *testing.T) {
	for _, c := range []api.Config{
		{},
		{Size: 0, Slide: 1, Keys: 1},
		{Size: 1, Slide: 0, Keys: 1},
		{Size: 0, Slide: 0, Keys: 1},
		{Size: 1, Slide: -1, Keys: 1},
		{Size: -1, Slide: -1, Keys: 1},
		{Size: 10, Slide: math.MinInt64, Keys: 1},
		{Size: math.MinInt64, Slide: math.MinInt64, Keys: 1},
		{Size: math.MinInt64, Slide: -1, Keys: 1},
		{Size: math.MinInt64, Slide: 1, Keys: 1},
		{Size: 4, Slide: 5, Keys: 1},
		{Size: 1, Slide: math.MaxInt64, Keys: 1},
		{Size: 1<<40 + 1, Slide: 1<<40 + 1, Keys: 1},
		{Size: math.MaxInt64, Slide: math.MaxInt64, Keys: 1},
		{Size: math.MaxInt64, Slide: 1, Keys: 1},
		{Size: 4097, Slide: 1, Keys: 1},
		{Size: 4097, Slide: 4096, Keys: 1},
		{Size: 2 * 4097, Slide: 2, Keys: 1},
		{Size: 3 * 4097, Slide: 6, Keys: 1},
		{Size: 1 << 40, Slide: 1, Keys: 1},
		{Size: 1 << 40, Slide: 1 << 27, Keys: 1},
		{Size: 1 << 40, Slide: 1<<40 - 1, Keys: 1},
		{Size: 10, Slide: 5, Late: -1, Keys: 1},
		{Size: 10, Slide: 5, Late: 1<<40 + 1, Keys: 1},
		{Size: 10, Slide: 5, Late: math.MinInt64, Keys: 1},
		{Size: 10, Slide: 5, Late: math.MaxInt64, Keys: 1},
		{Size: 10, Slide: 5, Keys: 0},
		{Size: 10, Slide: 5, Keys: -1},
		{Size: 10, Slide: 5, Keys: 17},
		{Size: 10, Slide: 5, Keys: math.MinInt},
		{Size: 10, Slide: 5, Keys: math.MaxInt},
	} {
		if f, e := sill.New(c); f != nil || e != api.ErrConfig {
			t.Errorf("New(%+v): %v, %d, want ErrConfig", c, f != nil, e)
		}
	}
}

// P4: configurations up to the edges, and the flow that they give.
func TestNew(t *testing.T) {
	for _, c := range []api.Config{
		{Size: 1, Slide: 1, Keys: 1},
		{Size: 10, Slide: 5, Late: 2, Keys: 2},
		{Size: 10, Slide: 10, Keys: 16},
		{Size: 10, Slide: 7, Late: 1 << 40, Keys: 16},
		{Size: 4096, Slide: 1, Keys: 1},
		{Size: 4096, Slide: 4095, Keys: 1},
		{Size: 2 * 4096, Slide: 2, Keys: 1},
		{Size: 3 * 4095, Slide: 6, Keys: 1},
		{Size: 1 << 40, Slide: 1 << 28, Keys: 1},
		{Size: 1 << 40, Slide: 3 << 28, Keys: 1},
		{Size: 1 << 40, Slide: 1 << 40, Late: 1 << 40, Keys: 16},
		{Size: 1<<40 - 1, Slide: 1<<40 - 1, Keys: 1},
	} {
		f := newFlow(t, c)
		wantNoLine(t, f)
		wantCounts(t, f, api.Counts{})
		for source := range api.MaxSources {
			wantErrno(t, "Feed ahead of Open", f.Feed(source, joined(mark(1))), api.ErrOpen)
		}
	}
	one, other := flowOf(t, api.Config{Size: 1, Slide: 1, Keys: 1}, 0), newFlow(t, api.Config{Size: 1, Slide: 1, Keys: 1})
	feed(t, one, 0, mark(1))
	wantNoLine(t, other)
	wantErrno(t, "Close in another flow", other.Close(0), api.ErrOpen)
}

// P5: ErrSource ahead of ErrOpen, and ErrOpen of each call.
func TestSourcesRefused(t *testing.T) {
	f := flowOf(t, api.Config{Size: 10, Slide: 5, Late: 2, Keys: 2}, 1)
	feed(t, f, 1, mark(10), event("a", 12, 1, 1))
	before := f.Counts()
	whole := joined(mark(50), event("b", 60, 1, 1))
	for _, source := range []int{-1, 8, 9, 256, 256 + 1, math.MinInt, math.MaxInt, 1 << 32} {
		wantErrno(t, "Open", f.Open(source), api.ErrSource)
		wantErrno(t, "Feed", f.Feed(source, whole), api.ErrSource)
		wantErrno(t, "Feed", f.Feed(source, wrongItem()), api.ErrSource)
		wantErrno(t, "Close", f.Close(source), api.ErrSource)
	}
	for _, source := range []int{0, 2, 7} {
		wantErrno(t, "Feed", f.Feed(source, whole), api.ErrOpen)
		wantErrno(t, "Feed", f.Feed(source, wrongItem()), api.ErrOpen)
		wantErrno(t, "Feed", f.Feed(source, nil), api.ErrOpen)
		wantErrno(t, "Close", f.Close(source), api.ErrOpen)
		wantErrno(t, "Open", f.Open(source), api.OK)
		wantErrno(t, "Open", f.Open(source), api.ErrOpen)
		wantErrno(t, "Close", f.Close(source), api.OK)
		wantErrno(t, "Close", f.Close(source), api.ErrOpen)
	}
	wantErrno(t, "Open", f.Open(1), api.ErrOpen)
	wantCounts(t, f, before)
	wantLine(t, f, 10)
}

// P1: an Open that is refused leaves what was not read, and the reach.
func TestOpenTwiceChangesNothing(t *testing.T) {
	f := flowOf(t, api.Config{Size: 10, Slide: 5, Keys: 2}, 0, 1)
	feed(t, f, 0, mark(10))
	b := bytesOf(mark(20))
	f.Feed(0, b[:5])
	wantErrno(t, "Open", f.Open(0), api.ErrOpen)
	feed(t, f, 1, mark(30))
	wantLine(t, f, 10)
	f.Feed(0, b[5:])
	wantLine(t, f, 20)
	wantCounts(t, f, api.Counts{Marks: 3})
}

// P5: all eight sources, each with bytes of its own.
func TestSourcesAreApart(t *testing.T) {
	f := flowOf(t, api.Config{Size: 10, Slide: 5, Keys: 2}, 0, 1, 2, 3, 4, 5, 6, 7)
	for k := range bytesOf(mark(0)) {
		for source := range api.MaxSources {
			b := bytesOf(mark(int64(100 + source)))
			wantErrno(t, "Feed", f.Feed(source, b[k:k+1]), api.OK)
		}
	}
	wantCounts(t, f, api.Counts{Marks: 8})
	wantLine(t, f, 100)
	for source := range 7 {
		wantErrno(t, "Close", f.Close(source), api.OK)
		wantLine(t, f, int64(101+source))
	}
}

// P5: wherever the bytes are cut, the same is done.
func TestFeedInPieces(t *testing.T) {
	b := joined(event("a", 3, 7, 1), mark(5), event("eightlet", 12, -2, 1), event("a", 1, 0, 0))
	want := api.Counts{Taken: 2, Marks: 1, Late: 1}
	for one := range len(b) + 1 {
		for two := one; two <= len(b); two++ {
			f := flowOf(t, api.Config{Size: 10, Slide: 5, Late: 2, Keys: 2}, 4)
			for _, piece := range [][]byte{b[:one], b[one:two], nil, b[two:], {}} {
				wantErrno(t, "Feed", f.Feed(4, piece), api.OK)
			}
			wantCounts(t, f, want)
			wantLine(t, f, 10)
		}
	}
}

// P5: an item is done as soon as its last byte is there, and not sooner.
func TestFeedDoesWholeItems(t *testing.T) {
	f := flowOf(t, api.Config{Size: 10, Slide: 5, Keys: 2}, 0)
	b := bytesOf(mark(7))
	for k := range b {
		wantCounts(t, f, api.Counts{})
		wantNoLine(t, f)
		f.Feed(0, b[k:k+1])
	}
	wantCounts(t, f, api.Counts{Marks: 1})
	wantLine(t, f, 7)
}

// P2: what is handed in is not written into and not kept.
func TestFeedLeavesBytes(t *testing.T) {
	f := flowOf(t, api.Config{Size: 10, Slide: 5, Keys: 2}, 0)
	b := joined(event("a", 3, 7, 1), event("b", 4, 7, 1), mark(9))
	all := append(bytes.Clone(b), "spare room"...)
	for _, end := range []int{5, 30, len(b)} {
		before := bytes.Clone(all)
		start := map[int]int{5: 0, 30: 5, len(b): 30}[end]
		wantErrno(t, "Feed", f.Feed(0, all[start:end]), api.OK)
		if !bytes.Equal(all, before) {
			t.Fatalf("Feed wrote into its bytes: %x, want %x", all, before)
		}
		for k := start; k < end; k++ {
			all[k] = 0xEE
		}
	}
	wantCounts(t, f, api.Counts{Taken: 2, Marks: 1})
	// the keys that are going on are those that came, whatever was written since
	feed(t, f, 0, event("a", 9, 1, 1), event("b", 9, 1, 1), event("\xee", 9, 1, 1))
	wantCounts(t, f, api.Counts{Taken: 4, Marks: 1, Full: 1})
}

// P5: what was not read is gone with the source.
func TestCloseForgetsWhatWasNotRead(t *testing.T) {
	f := flowOf(t, api.Config{Size: 10, Slide: 5, Keys: 2}, 0)
	b := bytesOf(mark(7))
	f.Feed(0, b[:len(b)-1])
	wantErrno(t, "Close", f.Close(0), api.OK)
	wantErrno(t, "Open", f.Open(0), api.OK)
	f.Feed(0, b[len(b)-1:])
	wantCounts(t, f, api.Counts{})
	f.Close(0)
	f.Open(0)
	feed(t, f, 0, mark(8))
	wantCounts(t, f, api.Counts{Marks: 1})
	wantLine(t, f, 8)
}

// P5: each thing that is no item breaks a source, as soon as it is all there.
func TestBroken(t *testing.T) {
	for _, body := range []string{"", "\x00", "\x01", "\x02", "\x03", "\x02" + strings.Repeat("\x00", 7), "\x01\x00" + strings.Repeat("\x00", 20), "\x01\x09ninebytes" + strings.Repeat("\x00", 20), strings.Repeat("\x02", 255)} {
		wrong := sealed([]byte(body))
		f := flowOf(t, api.Config{Size: 10, Slide: 5, Keys: 2}, 0)
		wantErrno(t, "Feed", f.Feed(0, append(joined(mark(3), event("a", 4, 1, 1)), wrong[:len(wrong)-1]...)), api.OK)
		wantCounts(t, f, api.Counts{Marks: 1, Taken: 1})
		wantErrno(t, "Feed", f.Feed(0, append(wrong[len(wrong)-1:], joined(mark(50))...)), api.OK)
		wantCounts(t, f, api.Counts{Marks: 1, Taken: 1, Broken: 1})
		wantLine(t, f, 4)
	}
}

// P5: a broken source is open, and nothing is read of it, until it is closed and opened.
func TestBrokenStaysOpen(t *testing.T) {
	f := flowOf(t, api.Config{Size: 10, Slide: 5, Keys: 2}, 0)
	b := append(joined(mark(3)), wrongItem()...)
	wantErrno(t, "Feed", f.Feed(0, append(b, joined(mark(50))...)), api.OK)
	want := api.Counts{Marks: 1, Broken: 1}
	for range 3 {
		wantErrno(t, "Feed", f.Feed(0, joined(mark(60), event("a", 60, 1, 1))), api.OK)
		wantErrno(t, "Feed", f.Feed(0, wrongItem()), api.OK)
		wantErrno(t, "Feed", f.Feed(0, nil), api.OK)
		wantErrno(t, "Open", f.Open(0), api.ErrOpen)
		wantCounts(t, f, want)
		wantLine(t, f, 3)
	}
	wantErrno(t, "Close", f.Close(0), api.OK)
	wantErrno(t, "Feed", f.Feed(0, nil), api.ErrOpen)
	wantErrno(t, "Open", f.Open(0), api.OK)
	wantErrno(t, "Feed", f.Feed(0, b), api.OK)
	wantCounts(t, f, api.Counts{Marks: 2, Broken: 2})
}

// P6: of the counts the first that applies.
func TestFirstThatApplies(t *testing.T) {
	f := flowOf(t, api.Config{Size: 10, Slide: 5, Keys: 1}, 0)
	feed(t, f, 0, event("a", 100, 1, 1))
	wantCounts(t, f, api.Counts{Taken: 1})
	feed(t, f, 0, event("b", -api.MaxTime-1, 1, 1)) // and late, and full
	wantCounts(t, f, api.Counts{Taken: 1, Range: 1})
	feed(t, f, 0, event("b", api.MaxTime+1, 1, 1)) // and full
	wantCounts(t, f, api.Counts{Taken: 1, Range: 2})
	feed(t, f, 0, event("b", 99, 1, 1)) // and full
	wantCounts(t, f, api.Counts{Taken: 1, Range: 2, Late: 1})
	feed(t, f, 0, event("b", 100, 1, 1))
	wantCounts(t, f, api.Counts{Taken: 1, Range: 2, Late: 1, Full: 1})
	wantLine(t, f, 100)
}

// P6: times at the edges of what may be.
func TestRange(t *testing.T) {
	f := flowOf(t, api.Config{Size: 10, Slide: 5, Keys: 1}, 0)
	feed(t, f, 0, event("a", math.MinInt64, 1, 1), event("a", -api.MaxTime-1, 1, 1), event("a", api.MaxTime+1, 1, 1), event("a", math.MaxInt64, 1, 1))
	wantCounts(t, f, api.Counts{Range: 4})
	wantNoLine(t, f)
	feed(t, f, 0, event("a", -api.MaxTime, 1, 1))
	wantLine(t, f, -api.MaxTime)
	feed(t, f, 0, event("a", api.MaxTime, 1, 1))
	wantLine(t, f, api.MaxTime)
	feed(t, f, 0, event("a", api.MaxTime-1, 1, 1), event("a", -api.MaxTime, 1, 1))
	wantCounts(t, f, api.Counts{Range: 4, Taken: 2, Late: 2})
}

// P6: late is what is below the line, not what is at it; without a line nothing is.
func TestLate(t *testing.T) {
	f := flowOf(t, api.Config{Size: 10, Slide: 5, Late: 3, Keys: 1}, 0)
	feed(t, f, 0, event("a", -50, 1, 1))
	wantLine(t, f, -53)
	feed(t, f, 0, event("a", -53, 1, 1), event("a", -54, 1, 1), mark(10), event("a", 7, 1, 1), event("a", 6, 1, 1))
	wantLine(t, f, 7)
	wantCounts(t, f, api.Counts{Taken: 3, Late: 2, Marks: 1})
}

// P6: the line of an event is the one behind the item ahead of it, in one Feed too.
func TestItemsAreDoneOneByOne(t *testing.T) {
	f := flowOf(t, api.Config{Size: 10, Slide: 10, Keys: 1}, 0)
	feed(t, f, 0, event("a", 5, 1, 1), event("b", 6, 1, 1), mark(10), event("b", 9, 1, 1), event("b", 11, 1, 1), event("a", 12, 1, 1))
	wantCounts(t, f, api.Counts{Taken: 2, Full: 2, Late: 1, Marks: 1})
}

// P6: a key goes on until the last of its windows has ended, at every place of
// an event within a slide, on both sides of 0 and at the edges.
func TestKeyGoesOn(t *testing.T) {
	for _, c := range []api.Config{{Size: 10, Slide: 5, Keys: 1}, {Size: 10, Slide: 10, Keys: 1}, {Size: 7, Slide: 3, Keys: 1}, {Size: 1, Slide: 1, Keys: 1}, {Size: 9, Slide: 8, Keys: 1}} {
		for _, from := range []int64{-25, 0, 1000, -api.MaxTime, api.MaxTime - 25} {
			for time := from; time <= from+25; time++ {
				start := time
				for start%c.Slide != 0 {
					start--
				}
				end := start + c.Size
				if end > api.MaxTime {
					continue // no line gets there
				}
				f := flowOf(t, c, 0)
				feed(t, f, 0, event("a", time, 1, 1), mark(end-1), event("b", end, 1, 1), event("a", end-1, 1, 1))
				wantCounts(t, f, api.Counts{Taken: 2, Full: 1, Marks: 1})
				f = flowOf(t, c, 0)
				feed(t, f, 0, event("a", time, 1, 1), mark(end), event("b", end, 1, 1), event("a", end, 1, 1))
				wantCounts(t, f, api.Counts{Taken: 2, Full: 1, Marks: 1})
			}
		}
	}
}

// P6: an older event does not make its key end sooner, a newer one later.
func TestKeyGoesOnByItsLastWindow(t *testing.T) {
	f := flowOf(t, api.Config{Size: 10, Slide: 5, Late: 20, Keys: 1}, 0)
	feed(t, f, 0, event("a", 20, 1, 1), event("a", 3, 1, 1), mark(49))
	wantLine(t, f, 29)
	feed(t, f, 0, event("b", 40, 1, 1))
	wantCounts(t, f, api.Counts{Taken: 2, Full: 1, Marks: 1})
	feed(t, f, 0, event("a", 34, 1, 1), mark(50), mark(59), event("b", 40, 1, 1))
	wantCounts(t, f, api.Counts{Taken: 3, Full: 2, Marks: 3})
	feed(t, f, 0, mark(60), event("b", 40, 1, 1))
	wantCounts(t, f, api.Counts{Taken: 4, Full: 2, Marks: 4})
}

// P6: as many keys as the configuration says; refused ones do not go on.
func TestFull(t *testing.T) {
	for many := 1; many <= api.MaxKeys; many++ {
		f := flowOf(t, api.Config{Size: 10, Slide: 5, Keys: many}, 0)
		for k := range api.MaxKeys + 1 {
			feed(t, f, 0, event(string([]byte{byte(k)}), 3, 1, 1))
		}
		wantCounts(t, f, api.Counts{Taken: many, Full: api.MaxKeys + 1 - many})
		for k := range api.MaxKeys + 1 {
			feed(t, f, 0, event(string([]byte{byte(k)}), 4, 1, 1))
		}
		wantCounts(t, f, api.Counts{Taken: 2 * many, Full: 2 * (api.MaxKeys + 1 - many)})
		feed(t, f, 0, mark(10))
		for k := range api.MaxKeys + 1 {
			feed(t, f, 0, event(string([]byte{byte(16 - k)}), 10, 1, 1))
		}
		wantCounts(t, f, api.Counts{Taken: 3 * many, Full: 3 * (api.MaxKeys + 1 - many), Marks: 1})
	}
}

// P6: keys are bytes: one that begins as another does is another one.
func TestKeysAreBytes(t *testing.T) {
	f := flowOf(t, api.Config{Size: 10, Slide: 5, Keys: 1}, 0)
	feed(t, f, 0, event("a", 3, 1, 1), event("a\x00", 3, 1, 1), event("A", 3, 1, 1), event("aa", 3, 1, 1), event("\xff", 3, 1, 1), event("\xfe", 3, 1, 1))
	wantCounts(t, f, api.Counts{Taken: 1, Full: 5})
}

// P6: windows are finished by a Close and by a breaking, too, and then keys end.
func TestKeysEndWithoutAnItem(t *testing.T) {
	for _, hold := range []func(*sill.Flow){
		func(f *sill.Flow) { f.Close(1) },
		func(f *sill.Flow) { f.Feed(1, wrongItem()) },
	} {
		f := flowOf(t, api.Config{Size: 10, Slide: 5, Keys: 1}, 0, 1)
		feed(t, f, 1, mark(0))
		feed(t, f, 0, event("a", 3, 1, 1), mark(10), event("b", 10, 1, 1))
		wantLine(t, f, 0)
		hold(f)
		wantLine(t, f, 10)
		feed(t, f, 0, event("b", 10, 1, 1))
		if got := f.Counts(); got.Taken != 2 || got.Full != 1 {
			t.Errorf("Counts = %+v", got)
		}
	}
}

// P7: the reach: of marks, taken and late events; not of those refused.
func TestReach(t *testing.T) {
	f := flowOf(t, api.Config{Size: 10, Slide: 10, Late: 5, Keys: 1}, 0)
	wantNoLine(t, f)
	feed(t, f, 0, event("a", 20, 1, 1))
	wantLine(t, f, 15)
	feed(t, f, 0, event("b", 25, 1, 1), event("a", api.MaxTime+1, 1, 1))
	wantCounts(t, f, api.Counts{Taken: 1, Full: 1, Range: 1})
	wantLine(t, f, 15)
	feed(t, f, 0, mark(22))
	wantLine(t, f, 17)
	feed(t, f, 0, mark(21), event("a", 18, 1, 1))
	wantLine(t, f, 17)
}

// P7: a source of which only Range or Full came has no reach, and holds nothing.
func TestNoReachOfRefused(t *testing.T) {
	f := flowOf(t, api.Config{Size: 10, Slide: 10, Keys: 1}, 0, 1)
	feed(t, f, 0, event("a", 20, 1, 1))
	feed(t, f, 1, event("b", 20, 1, 1), event("a", -api.MaxTime-1, 1, 1))
	feed(t, f, 0, mark(30))
	wantLine(t, f, 30)
	wantCounts(t, f, api.Counts{Taken: 1, Full: 1, Range: 1, Marks: 1})
}

// P7: what is late gives a source a reach, and that holds the line.
func TestLateHoldsTheLine(t *testing.T) {
	f := flowOf(t, api.Config{Size: 10, Slide: 10, Keys: 1}, 0, 1)
	feed(t, f, 0, mark(20))
	feed(t, f, 1, event("a", 5, 1, 1))
	feed(t, f, 0, mark(40))
	wantLine(t, f, 20)
	feed(t, f, 1, mark(30))
	wantLine(t, f, 30)
	wantCounts(t, f, api.Counts{Late: 1, Marks: 3})
}

// P7: marks beyond the greatest time count as that, on either side.
func TestMarksBeyond(t *testing.T) {
	for _, late := range []int64{0, 7, 1 << 40} {
		for _, c := range []struct{ mark, as int64 }{
			{math.MinInt64, -api.MaxTime}, {-api.MaxTime - 1, -api.MaxTime}, {-api.MaxTime, -api.MaxTime}, {-api.MaxTime + 1, -api.MaxTime + 1},
			{api.MaxTime - 1, api.MaxTime - 1}, {api.MaxTime, api.MaxTime}, {api.MaxTime + 1, api.MaxTime}, {math.MaxInt64, api.MaxTime},
		} {
			f := flowOf(t, api.Config{Size: 10, Slide: 10, Late: late, Keys: 1}, 0)
			feed(t, f, 0, mark(c.mark))
			wantLine(t, f, c.as-late)
			wantCounts(t, f, api.Counts{Marks: 1})
		}
	}
}

// P7: the line is the greatest that the least reach ever was.
func TestLineNeverFalls(t *testing.T) {
	f := flowOf(t, api.Config{Size: 10, Slide: 10, Keys: 1}, 0)
	feed(t, f, 0, mark(50))
	wantErrno(t, "Open", f.Open(1), api.OK)
	wantLine(t, f, 50)
	feed(t, f, 1, mark(10))
	wantLine(t, f, 50)
	feed(t, f, 0, mark(60))
	wantLine(t, f, 50)
	feed(t, f, 1, mark(55))
	wantLine(t, f, 55)
	feed(t, f, 1, mark(70))
	wantLine(t, f, 60)
	f.Close(0)
	wantLine(t, f, 70)
	f.Close(1)
	wantLine(t, f, 70)
	f.Open(0)
	feed(t, f, 0, mark(-5))
	wantLine(t, f, 70)
	feed(t, f, 0, event("a", 69, 1, 1), event("a", 70, 1, 1))
	wantCounts(t, f, api.Counts{Late: 1, Taken: 1, Marks: 6})
}

// P7: a source that was closed and opened has no reach until something comes.
func TestReachIsSinceTheOpening(t *testing.T) {
	f := flowOf(t, api.Config{Size: 10, Slide: 10, Keys: 1}, 0, 1)
	feed(t, f, 1, mark(5))
	feed(t, f, 0, mark(20))
	wantLine(t, f, 5)
	f.Close(1)
	wantLine(t, f, 20)
	f.Open(1)
	feed(t, f, 0, mark(30))
	wantLine(t, f, 30)
	feed(t, f, 1, mark(25))
	feed(t, f, 0, mark(40))
	wantLine(t, f, 30)
}

// P7: a broken source holds nothing, with what was read ahead of the breaking neither.
func TestBrokenHoldsNothing(t *testing.T) {
	f := flowOf(t, api.Config{Size: 10, Slide: 10, Keys: 1}, 0, 1)
	feed(t, f, 0, mark(5))
	feed(t, f, 1, mark(20))
	wantLine(t, f, 5)
	f.Feed(0, append(joined(mark(7)), wrongItem()...))
	wantLine(t, f, 20)
	feed(t, f, 1, mark(30))
	wantLine(t, f, 30)
	f.Close(0)
	wantLine(t, f, 30)
}

// P2: Line and Counts change nothing.
func TestAskingChangesNothing(t *testing.T) {
	f := flowOf(t, api.Config{Size: 10, Slide: 5, Late: 2, Keys: 2}, 0)
	for range 3 {
		wantNoLine(t, f)
		wantCounts(t, f, api.Counts{})
	}
	feed(t, f, 0, event("a", 3, 7, 1))
	for range 3 {
		wantLine(t, f, 1)
		wantCounts(t, f, api.Counts{Taken: 1})
	}
}

// The document's example, as far as lines and counts go.
func TestDocumentsExample(t *testing.T) {
	f := flowOf(t, api.Config{Size: 10, Slide: 5, Late: 2, Keys: 2}, 0)
	feed(t, f, 0, event("a", 3, 7, 1), event("a", 12, -2, 1))
	wantLine(t, f, 10)
	wantWindows(t, f, window("a", -5, 1, 7, 7, 7, 1), window("a", 0, 1, 7, 7, 7, 1))
	feed(t, f, 0, event("a", 9, 1, 1))
	wantCounts(t, f, api.Counts{Taken: 2, Late: 1})
	feed(t, f, 0, event("b", 10, 1, 1))
	wantCounts(t, f, api.Counts{Taken: 3, Late: 1})
	feed(t, f, 0, mark(21), event("c", 21, 1, 1))
	wantCounts(t, f, api.Counts{Taken: 3, Late: 1, Full: 1, Marks: 1})
	feed(t, f, 0, mark(22))
	wantLine(t, f, 20)
	wantWindows(t, f,
		window("a", 5, 1, -2, -2, -2, 1), window("b", 5, 1, 1, 1, 1, 1),
		window("a", 10, 1, -2, -2, -2, 1), window("b", 10, 1, 1, 1, 1, 1))
	feed(t, f, 0, event("c", 21, 1, 1), event("d", 21, 1, 1))
	wantCounts(t, f, api.Counts{Taken: 5, Late: 1, Full: 1, Marks: 2})
	wantWindows(t, f)
}

// P2: calls by several goroutines come one after the other: all that was fed is
// counted, and nobody sees half of a Feed.
func TestSeveralGoroutines(t *testing.T) {
	f := flowOf(t, api.Config{Size: 10, Slide: 5, Late: 1 << 40, Keys: 16}, 0, 1, 2, 3)
	const rounds = 300
	var feeders, lookers sync.WaitGroup
	stop := make(chan struct{})
	for source := range 4 {
		feeders.Add(1)
		go func() {
			defer feeders.Done()
			for k := range rounds {
				time := int64(k)
				b := joined(event("a", time, 1, 1), mark(time), event("b", time, 1, 1), mark(api.MaxTime/2+time), event("c", math.MaxInt64, 1, 1))
				f.Feed(source, b)
			}
		}()
	}
	for range 2 {
		lookers.Add(1)
		go func() {
			defer lookers.Done()
			for last := int64(math.MinInt64); ; {
				c := f.Counts()
				if c.Marks != 2*c.Range || c.Taken+c.Late != 2*c.Range {
					t.Errorf("Counts = %+v: half of a Feed", c)
					return
				}
				if line, is := f.Line(); is && line < last {
					t.Errorf("Line = %d, behind %d", line, last)
					return
				} else if is {
					last = line
				}
				select {
				case <-stop:
					return
				default:
				}
			}
		}()
	}
	feeders.Wait()
	close(stop)
	lookers.Wait()
	c := f.Counts()
	if c.Marks != 4*rounds*2 || c.Range != 4*rounds || c.Taken+c.Late != 4*rounds*2 {
		t.Errorf("Counts = %+v", c)
	}
	wantLine(t, f, api.MaxTime/2+rounds-1-1<<40)
}

// P2: of many that open or close one source at a time, one does.
func TestOneOpens(t *testing.T) {
	f := newFlow(t, api.Config{Size: 10, Slide: 5, Keys: 1})
	for _, call := range []func(int) api.Errno{f.Open, f.Close, f.Open, f.Close} {
		var all sync.WaitGroup
		answers := make([]api.Errno, 50)
		for k := range answers {
			all.Add(1)
			go func() {
				defer all.Done()
				answers[k] = call(3)
			}()
		}
		all.Wait()
		done := 0
		for _, e := range answers {
			if e == api.OK {
				done++
			} else {
				wantErrno(t, "the others", e, api.ErrOpen)
			}
		}
		if done != 1 {
			t.Errorf("%d did", done)
		}
	}
}
