package sill_test

import (
	"math"
	"reflect"
	"slices"
	"strings"
	"sync"
	"testing"

	"sill/api"
	"sill/sill"
)

func window(key string, start int64, count int, sum, least, greatest int64, tags ...uint32) api.Window {
	return api.Window{Key: key, Start: start, Count: count, Sum: sum, Min: least, Max: greatest, Tags: tags}
}

// wantWindows asks twice: what was told is not told again.
func wantWindows(t *testing.T, f *sill.Flow, want ...api.Window) {
	t.Helper()
	if got := f.Take(); !slices.EqualFunc(got, want, same) {
		t.Errorf("Take = %+v, want %+v", got, want)
	}
	if got := f.Take(); len(got) != 0 {
		t.Errorf("Take, once more, = %+v", got)
	}
}

func same(a, b api.Window) bool { return reflect.DeepEqual(a, b) }

// starts are those of windows of one event with value 0 and tag 0.
func starts(key string, all ...int64) []api.Window {
	var out []api.Window
	for _, start := range all {
		out = append(out, window(key, start, 1, 0, 0, 0, 0))
	}
	return out
}

// P8: nothing, if no window is finished, or none that is has an event.
func TestTakeNothing(t *testing.T) {
	f := newFlow(t, api.Config{Size: 10, Slide: 5, Keys: 2})
	wantWindows(t, f)
	wantErrno(t, "Open", f.Open(0), api.OK)
	wantWindows(t, f)
	feed(t, f, 0, mark(-100), mark(100))
	wantWindows(t, f)
	feed(t, f, 0, event("a", 100, 1, 1))
	wantWindows(t, f)
	feed(t, f, 0, mark(104))
	wantWindows(t, f)
}

// P8: a window is finished when the line is at its end, and not sooner.
func TestFinishedAtTheEnd(t *testing.T) {
	for _, late := range []int64{0, 1, 7, 1 << 40} {
		f := flowOf(t, api.Config{Size: 10, Slide: 5, Late: late, Keys: 1}, 0)
		feed(t, f, 0, event("a", 3, 0, 0))
		for time := int64(3); time < 12; time++ {
			feed(t, f, 0, mark(late+time))
			wantLine(t, f, time)
			switch time {
			case 5:
				wantWindows(t, f, starts("a", -5)...)
			case 10:
				wantWindows(t, f, starts("a", 0)...)
			default:
				wantWindows(t, f)
			}
		}
	}
}

// P8: which windows an event is in, at the edges of them and on both sides of 0.
func TestWindowsOfAnEvent(t *testing.T) {
	for _, c := range []struct {
		size, slide, time int64
		starts            []int64
	}{
		{1, 1, 0, []int64{0}},
		{1, 1, -1, []int64{-1}},
		{10, 10, 0, []int64{0}},
		{10, 10, 9, []int64{0}},
		{10, 10, 10, []int64{10}},
		{10, 10, -1, []int64{-10}},
		{10, 10, -10, []int64{-10}},
		{10, 10, -11, []int64{-20}},
		{10, 5, 0, []int64{-5, 0}},
		{10, 5, 4, []int64{-5, 0}},
		{10, 5, 5, []int64{0, 5}},
		{10, 5, -1, []int64{-10, -5}},
		{10, 5, -5, []int64{-10, -5}},
		{10, 5, -6, []int64{-15, -10}},
		{7, 3, 0, []int64{-6, -3, 0}},
		{7, 3, 1, []int64{-3, 0}},
		{7, 3, 2, []int64{-3, 0}},
		{7, 3, 3, []int64{-3, 0, 3}},
		{7, 3, -3, []int64{-9, -6, -3}},
		{7, 3, -4, []int64{-9, -6}},
		{5, 4, 0, []int64{-4, 0}},
		{5, 4, 1, []int64{0}},
		{5, 4, 3, []int64{0}},
		{5, 4, -4, []int64{-8, -4}},
		{5, 4, -1, []int64{-4}},
		{4, 1, 2, []int64{-1, 0, 1, 2}},
		{1 << 40, 1 << 40, -1, []int64{-1 << 40}},
		{1 << 40, 1 << 39, 0, []int64{-1 << 39, 0}},
		{1 << 40, 1 << 40, -api.MaxTime, []int64{-api.MaxTime}},
		{1 << 40, 1 << 39, -api.MaxTime, []int64{-api.MaxTime - 1<<39, -api.MaxTime}},
		{3 << 38, 1 << 39, api.MaxTime - 1<<40, []int64{api.MaxTime - 1<<40 - 1<<39, api.MaxTime - 1<<40}},
	} {
		f := flowOf(t, api.Config{Size: c.size, Slide: c.slide, Keys: 1}, 0)
		feed(t, f, 0, event("a", c.time, 0, 0), mark(math.MaxInt64))
		wantWindows(t, f, starts("a", c.starts...)...)
	}
}

// P8: as many windows as there may be of one event, and none of the empty ones between.
func TestManyWindows(t *testing.T) {
	f := flowOf(t, api.Config{Size: 4096 << 28, Slide: 1 << 28, Keys: 1}, 0)
	feed(t, f, 0, event("a", -api.MaxTime, 0, 0), event("a", 0, 0, 0), event("a", api.MaxTime, 0, 0))
	var all []int64
	for _, time := range []int64{-api.MaxTime, 0} {
		for k := int64(-4095); k <= 0; k++ {
			all = append(all, time+k<<28)
		}
	}
	wantWindows(t, f, starts("a", all...)...)
	wantErrno(t, "Close", f.Close(0), api.OK)
	wantWindows(t, f)
}

// P8: a window that the line cannot come to the end of is never told.
func TestNeverFinished(t *testing.T) {
	f := flowOf(t, api.Config{Size: 2, Slide: 1, Keys: 1}, 0)
	feed(t, f, 0, event("a", api.MaxTime-1, 0, 0), event("a", api.MaxTime, 0, 0), mark(math.MaxInt64))
	wantWindows(t, f, starts("a", api.MaxTime-2)...)
}

// P8: by ends, and those of one end by keys, as bytes.
func TestOrder(t *testing.T) {
	rising := []string{"\x00", "\x00\x00", "A", "Z", "a", "a\x00", "aa", "ab", "b", "z", "\x7f", "\x80", "é", "日", "\xff", "\xff\xff"}
	for _, falling := range []bool{false, true} {
		f := flowOf(t, api.Config{Size: 4, Slide: 2, Late: 100, Keys: 16}, 0)
		var want []api.Window
		for _, start := range []int64{-4, -2, 0, 2} {
			for _, key := range rising {
				count := map[int64]int{-4: 1, -2: 2, 0: 2, 2: 1}[start]
				want = append(want, window(key, start, count, 0, 0, 0, 0))
			}
		}
		sent := slices.Clone(rising)
		if falling {
			slices.Reverse(sent)
		}
		for _, key := range sent {
			feed(t, f, 0, event(key, 3, 0, 0), event(key, -2, 0, 0), event(key, 1, 0, 0))
		}
		feed(t, f, 0, mark(200))
		wantWindows(t, f, want...)
	}
}

// P8: the numbers of a window, with sums that go round, and its tags.
func TestNumbers(t *testing.T) {
	const low, high = math.MinInt64, math.MaxInt64
	for _, c := range []struct {
		values               []int64
		sum, least, greatest int64
	}{
		{[]int64{0}, 0, 0, 0},
		{[]int64{low}, low, low, low},
		{[]int64{high}, high, high, high},
		{[]int64{high, 1}, low, 1, high},
		{[]int64{low, -1}, high, low, -1},
		{[]int64{low, low}, 0, low, low},
		{[]int64{high, high, high}, high - 2, high, high},
		{[]int64{low, high}, -1, low, high},
		{[]int64{5, -3, 4}, 6, -3, 5},
		{[]int64{-5, -3, -4}, -12, -5, -3},
		{[]int64{5, 3, 4}, 12, 3, 5},
		{[]int64{2, 2, 2}, 6, 2, 2},
	} {
		f := flowOf(t, api.Config{Size: 10, Slide: 10, Keys: 1}, 0)
		for k, value := range c.values {
			feed(t, f, 0, event("a", int64(k), value, 7))
		}
		feed(t, f, 0, mark(10))
		wantWindows(t, f, window("a", 0, len(c.values), c.sum, c.least, c.greatest, 7))
	}
}

func TestTags(t *testing.T) {
	for _, c := range []struct{ sent, want []uint32 }{
		{[]uint32{0}, []uint32{0}},
		{[]uint32{math.MaxUint32}, []uint32{math.MaxUint32}},
		{[]uint32{3, 1, 2}, []uint32{1, 2, 3}},
		{[]uint32{1, 1, 1}, []uint32{1}},
		{[]uint32{1 << 31, 0, math.MaxUint32, 1<<31 - 1, 0}, []uint32{0, 1<<31 - 1, 1 << 31, math.MaxUint32}},
		{[]uint32{300, 200, 100, 200, 300}, []uint32{100, 200, 300}},
	} {
		f := flowOf(t, api.Config{Size: 10, Slide: 10, Keys: 1}, 0)
		for k, tag := range c.sent {
			feed(t, f, 0, event("a", int64(k), 0, tag))
		}
		feed(t, f, 0, mark(10))
		wantWindows(t, f, window("a", 0, len(c.sent), 0, 0, 0, c.want...))
	}
}

// P8: what goes from a window is in nothing of it: values, tags.
func TestSliding(t *testing.T) {
	for _, takes := range []bool{false, true} {
		f := flowOf(t, api.Config{Size: 3, Slide: 1, Keys: 1}, 0)
		var got []api.Window
		for _, i := range []api.Item{
			event("a", 0, 9, 1), event("a", 1, -9, 2), event("a", 2, 1, 1), event("a", 2, 4, 3),
			event("a", 4, 2, 2), event("a", 4, math.MaxInt64, 4), event("a", 5, 1, 1), mark(50),
		} {
			feed(t, f, 0, i)
			if takes {
				got = append(got, f.Take()...)
			}
		}
		got = append(got, f.Take()...)
		want := []api.Window{
			window("a", -2, 1, 9, 9, 9, 1),
			window("a", -1, 2, 0, -9, 9, 1, 2),
			window("a", 0, 4, 5, -9, 9, 1, 2, 3),
			window("a", 1, 3, -4, -9, 4, 1, 2, 3),
			window("a", 2, 4, math.MinInt64+6, 1, math.MaxInt64, 1, 2, 3, 4),
			window("a", 3, 3, math.MinInt64+2, 1, math.MaxInt64, 1, 2, 4),
			window("a", 4, 3, math.MinInt64+2, 1, math.MaxInt64, 1, 2, 4),
			window("a", 5, 1, 1, 1, 1, 1),
		}
		if !slices.EqualFunc(got, want, same) {
			t.Errorf("takes between: %v: %+v, want %+v", takes, got, want)
		}
	}
}

// P8: one key's events are in no window of another.
func TestKeysAreApart(t *testing.T) {
	f := flowOf(t, api.Config{Size: 10, Slide: 10, Late: 5, Keys: 3}, 0)
	feed(t, f, 0, event("a", 1, 1, 1), event("b", 12, 2, 2), event("ab", 3+10, 3, 3), event("a", 9, 4, 4), mark(25))
	wantWindows(t, f, window("a", 0, 2, 5, 1, 4, 1, 4), window("ab", 10, 1, 3, 3, 3, 3), window("b", 10, 1, 2, 2, 2, 2))
}

// P6, P8: an event that was not taken is in no window.
func TestRefusedAreInNoWindow(t *testing.T) {
	f := flowOf(t, api.Config{Size: 10, Slide: 10, Late: 2, Keys: 1}, 0)
	feed(t, f, 0,
		event("a", 1, 1, 1), event("b", 2, 50, 5), event("a", 7, 2, 2), event("a", 4, 60, 6), event("a", api.MaxTime+1, 70, 7),
		event("a", -api.MaxTime-1, 80, 8), event("a", math.MinInt64, 90, 9), event("a", 5, 3, 3))
	wantCounts(t, f, api.Counts{Taken: 3, Full: 1, Late: 1, Range: 3})
	feed(t, f, 0, mark(math.MaxInt64))
	wantWindows(t, f, window("a", 0, 3, 6, 1, 3, 1, 2, 3))
}

// P8: events of all sources are in one window, whatever becomes of their source.
func TestSourcesShareWindows(t *testing.T) {
	f := flowOf(t, api.Config{Size: 10, Slide: 10, Keys: 1}, 0, 1, 2)
	feed(t, f, 0, event("a", 1, 1, 1))
	feed(t, f, 1, event("a", 2, 2, 2))
	feed(t, f, 2, event("a", 3, 3, 3))
	wantErrno(t, "Close", f.Close(0), api.OK)
	wantErrno(t, "Feed", f.Feed(1, wrongItem()), api.OK)
	wantWindows(t, f)
	feed(t, f, 2, mark(10))
	wantWindows(t, f, window("a", 0, 3, 6, 1, 3, 1, 2, 3))
}

// P7, P8: windows are finished by an event, a mark, a Close or a breaking.
func TestWhatFinishes(t *testing.T) {
	for name, finish := range map[string]func(f *sill.Flow){
		"event":  func(f *sill.Flow) { f.Feed(1, joined(event("b", 15, 0, 0))) },
		"mark":   func(f *sill.Flow) { f.Feed(1, joined(mark(15))) },
		"full":   func(f *sill.Flow) { f.Feed(1, joined(event("a", 12, 0, 0), event("c", 40, 0, 0))) },
		"close":  func(f *sill.Flow) { f.Close(1) },
		"broken": func(f *sill.Flow) { f.Feed(1, wrongItem()) },
	} {
		f := flowOf(t, api.Config{Size: 10, Slide: 10, Keys: 2}, 0, 1)
		feed(t, f, 1, event("a", 1, 0, 0))
		feed(t, f, 0, event("b", 21, 0, 0))
		wantWindows(t, f)
		finish(f)
		if got := f.Take(); !slices.EqualFunc(got, starts("a", 0), same) {
			t.Errorf("%s: Take = %+v", name, got)
		}
	}
}

// P8: a Take tells all since the last one, however often the line moved.
func TestTakeAfterManyMoves(t *testing.T) {
	f := flowOf(t, api.Config{Size: 2, Slide: 2, Keys: 1}, 0)
	var want []int64
	for time := int64(-20); time < 20; time += 2 {
		feed(t, f, 0, event("a", time, 0, 0), mark(time+1))
		want = append(want, time)
	}
	wantWindows(t, f, starts("a", want[:19]...)...)
	feed(t, f, 0, mark(20))
	wantWindows(t, f, starts("a", want[19])...)
}

// P6, P8: keys that are not going on any more hold no place, and their windows wait for a Take.
func TestKeysWaitForATake(t *testing.T) {
	f := flowOf(t, api.Config{Size: 10, Slide: 10, Keys: 1}, 0)
	var want []api.Window
	for k := range int64(100) {
		key := strings.Repeat(string(rune('a'+k%7)), int(1+k%8))
		feed(t, f, 0, event(key, 10*k+3, 0, 0), mark(10*k+10))
		want = append(want, starts(key, 10*k)...)
	}
	wantCounts(t, f, api.Counts{Taken: 100, Marks: 100})
	wantWindows(t, f, want...)
}

// P6, P8: a key that goes on again has windows of its own, with what was before untaken or not.
func TestKeyAgain(t *testing.T) {
	for _, takes := range []bool{false, true} {
		f := flowOf(t, api.Config{Size: 10, Slide: 5, Keys: 1}, 0)
		first := []api.Window{window("a", -5, 1, 1, 1, 1, 1), window("a", 0, 1, 1, 1, 1, 1)}
		feed(t, f, 0, event("a", 3, 1, 1), mark(10))
		if takes {
			wantWindows(t, f, first...)
			first = nil
		}
		feed(t, f, 0, event("b", 10, 2, 2), mark(20), event("a", 20, 3, 3), mark(30))
		wantWindows(t, f, append(first,
			window("b", 5, 1, 2, 2, 2, 2), window("b", 10, 1, 2, 2, 2, 2),
			window("a", 15, 1, 3, 3, 3, 3), window("a", 20, 1, 3, 3, 3, 3))...)
	}
}

// P8: what came out of order is in its windows too, also behind a Take.
func TestOutOfOrder(t *testing.T) {
	f := flowOf(t, api.Config{Size: 6, Slide: 3, Late: 50, Keys: 1}, 0)
	for _, time := range []int64{40, 7, 33, -5, 12, 40, 0, 7} {
		feed(t, f, 0, event("a", time, time, uint32(time)))
	}
	feed(t, f, 0, mark(53))
	wantLine(t, f, 3)
	wantWindows(t, f,
		window("a", -9, 1, -5, -5, -5, math.MaxUint32-4), window("a", -6, 1, -5, -5, -5, math.MaxUint32-4),
		window("a", -3, 1, 0, 0, 0, 0))
	feed(t, f, 0, event("a", 30, 30, 30), event("a", 3, 3, 3), event("a", 4, -4, 4), mark(63))
	wantLine(t, f, 13)
	wantWindows(t, f,
		window("a", 0, 3, -1, -4, 3, 0, 3, 4), window("a", 3, 4, 13, -4, 7, 3, 4, 7), window("a", 6, 2, 14, 7, 7, 7))
}

// spoilWindows writes into all of an answer and into its spare room.
func spoilWindows(l []api.Window) {
	for _, w := range l {
		tags := w.Tags[:cap(w.Tags)]
		for k := range tags {
			tags[k] = 12345
		}
	}
	l = l[:cap(l)]
	for k := range l {
		l[k] = window("spoilt", 1, 2, 3, 4, 5)
	}
}

// P2: an answer of Take is new memory, and no two lists of it share any.
func TestTakeGivesNewMemory(t *testing.T) {
	for _, spoils := range []bool{false, true} {
		f := flowOf(t, api.Config{Size: 4, Slide: 1, Keys: 2}, 0)
		var got []api.Window
		for time := range int64(20) {
			for _, key := range []string{"a", "b"} {
				feed(t, f, 0, event(key, time, time, uint32(time/3)), event(key, time, -time, uint32(time/2)))
			}
			answer := f.Take()
			for _, w := range answer {
				w.Tags = slices.Clone(w.Tags)
				got = append(got, w)
			}
			if spoils {
				spoilWindows(answer)
			}
		}
		want := newSlow(api.Config{Size: 4, Slide: 1, Keys: 2})
		want.open(0)
		for time := range int64(20) {
			for _, key := range []string{"a", "b"} {
				want.feed(0, joined(event(key, time, time, uint32(time/3)), event(key, time, -time, uint32(time/2))))
			}
		}
		if all := want.take(); !slices.EqualFunc(got, all, same) {
			t.Errorf("spoilt: %v: %+v, want %+v", spoils, got, all)
		}
	}
}

func TestTagsOfAnAnswerAreApart(t *testing.T) {
	f := flowOf(t, api.Config{Size: 4, Slide: 1, Keys: 2}, 0)
	feed(t, f, 0, event("a", 0, 0, 1), event("b", 0, 0, 1), event("a", 0, 0, 2), event("b", 0, 0, 2), mark(50))
	l := f.Take()
	for k := range l {
		tags := l[k].Tags[:cap(l[k].Tags)]
		for n := range tags {
			tags[n] = uint32(100 + k)
		}
	}
	for k, w := range l {
		if !slices.Equal(w.Tags, []uint32{uint32(100 + k), uint32(100 + k)}) {
			t.Errorf("the tags of window %d are those of another: %v", k, w.Tags)
		}
	}
	if len(l) != 8 {
		t.Errorf("%d windows", len(l))
	}
}

// P2: a key that was taken is not changed by writing into what was handed in.
func TestTakeKeepsNothingHandedIn(t *testing.T) {
	f := flowOf(t, api.Config{Size: 4, Slide: 4, Keys: 2}, 0)
	b := joined(event("eightlet", 1, 2, 3), event("k", 1, 2, 3), mark(4))
	wantErrno(t, "Feed", f.Feed(0, b), api.OK)
	spoil(b)
	wantWindows(t, f, window("eightlet", 0, 1, 2, 2, 2, 3), window("k", 0, 1, 2, 2, 2, 3))
}

// P2, P8: Take changes neither the line nor the counts nor which keys are going on.
func TestTakeLeavesTheRest(t *testing.T) {
	var flows [2]*sill.Flow
	for k := range flows {
		flows[k] = flowOf(t, api.Config{Size: 4, Slide: 2, Late: 1, Keys: 2}, 0, 1)
	}
	for time := range int64(60) {
		for k, f := range flows {
			feed(t, f, int(time%2), event(string(rune('a'+time%3)), time-3*(time%4), 0, 0))
			if k == 1 {
				f.Take()
			}
		}
		line, is := flows[0].Line()
		if got, gotIs := flows[1].Line(); got != line || gotIs != is {
			t.Fatalf("Line = %d, %v, want %d, %v", got, gotIs, line, is)
		}
		wantCounts(t, flows[1], flows[0].Counts())
	}
	if c := flows[0].Counts(); c.Taken == 0 || c.Full == 0 || c.Late == 0 {
		t.Errorf("Counts = %+v: too little to see by", c)
	}
}

// P2: of several goroutines that feed and take, each window goes to one, whole.
func TestSeveralTake(t *testing.T) {
	f := flowOf(t, api.Config{Size: 10, Slide: 5, Keys: 16}, 0, 1, 2, 3)
	for source := range 4 {
		feed(t, f, source, mark(0))
	}
	const rounds = 1000
	var feeders, takers sync.WaitGroup
	stop := make(chan struct{})
	for source := range 4 {
		feeders.Go(func() {
			key := string(rune('a' + source))
			for time := range int64(rounds) {
				f.Feed(source, joined(event(key, time, time, 1), event(key, time, -time, uint32(time))))
			}
			f.Feed(source, joined(mark(2*rounds)))
		})
	}
	answers := make([][]api.Window, 3)
	for k := range answers {
		takers.Go(func() {
			for done := false; !done; {
				select {
				case <-stop:
					done = true
				default:
				}
				l := f.Take()
				answers[k] = append(answers[k], l...)
				spoilSpare(l)
			}
		})
	}
	feeders.Wait()
	close(stop)
	takers.Wait()
	got := slices.Concat(answers...)
	slices.SortFunc(got, func(a, b api.Window) int {
		if a.Start != b.Start {
			return int(a.Start - b.Start)
		}
		return strings.Compare(a.Key, b.Key)
	})
	if want := wholeRange(rounds); !slices.EqualFunc(got, want, same) {
		t.Errorf("%d windows, want %d, or others", len(got), len(want))
	}
}

func spoilSpare(l []api.Window) {
	spare := l[len(l):cap(l)]
	for k := range spare {
		spare[k] = window("spoilt", 1, 2, 3, 4, 5)
	}
}

// wholeRange: the windows (of 10, each 5) of four keys with two events at each time.
func wholeRange(rounds int64) []api.Window {
	var out []api.Window
	for start := int64(-5); start < rounds; start += 5 {
		first, last := max(0, start), min(rounds, start+10)-1
		tags := []uint32{1}
		for time := first; time <= last; time++ {
			if time != 1 {
				tags = append(tags, uint32(time))
			}
		}
		slices.Sort(tags)
		for _, key := range []string{"a", "b", "c", "d"} {
			out = append(out, window(key, start, 2*int(last-first+1), 0, -last, last, tags...))
		}
	}
	return out
}

// As many panes as there may be in a window, each taken alone: a window must
// slide in a few steps for this to end soon.
func TestSlidesInAFewSteps(t *testing.T) {
	f := flowOf(t, api.Config{Size: 4096, Slide: 1, Keys: 1}, 0)
	for time := range int64(30000) {
		feed(t, f, 0, event("a", time, time, uint32(time%3)))
		l := f.Take()
		if time == 0 {
			wantWindows(t, f)
			continue
		}
		least := max(0, time-4096)
		count := time - least
		tags := []uint32{0, 1, 2}[:min(3, count)]
		if want := window("a", time-4096, int(count), count*(least+time-1)/2, least, time-1, tags...); len(l) != 1 || !same(l[0], want) {
			t.Fatalf("Take = %+v, want %+v", l, want)
		}
	}
}
