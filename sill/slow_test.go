package sill_test

import (
	"bytes"
	"math"
	"math/rand"
	"slices"
	"strings"
	"testing"

	"sill/api"
	"sill/sill"
)

// slowFlow is a flow by the document's words: it keeps all that ever came, and
// works everything out anew. It shares nothing with the program.
type slowFlow struct {
	config  api.Config
	sources map[int]*slowSource // the open ones
	taken   []api.Item
	lines   []int64 // the least reaches, one for each time that there was one
	counts  api.Counts
	told    map[slowName]bool
}

type slowName struct {
	start int64
	key   string
}

type slowSource struct {
	broken bool
	bytes  []byte
	times  []int64 // that its reach is made of
}

func newSlow(c api.Config) *slowFlow {
	return &slowFlow{config: c, sources: map[int]*slowSource{}, told: map[slowName]bool{}}
}

func (f *slowFlow) errnoOf(source int, open bool) api.Errno {
	if source < 0 || source > 7 {
		return api.ErrSource
	}
	if (f.sources[source] != nil) != open {
		return api.ErrOpen
	}
	return api.OK
}

func (f *slowFlow) open(source int) api.Errno {
	e := f.errnoOf(source, false)
	if e == api.OK {
		f.sources[source] = &slowSource{}
		f.noteReach()
	}
	return e
}

func (f *slowFlow) close(source int) api.Errno {
	e := f.errnoOf(source, true)
	if e == api.OK {
		delete(f.sources, source)
		f.noteReach()
	}
	return e
}

func (f *slowFlow) feed(source int, b []byte) api.Errno {
	e := f.errnoOf(source, true)
	if e != api.OK {
		return e
	}
	s := f.sources[source]
	s.bytes = append(s.bytes, b...)
	for !s.broken && len(s.bytes) > 0 && len(s.bytes) >= int(s.bytes[0])+3 {
		size := int(s.bytes[0]) + 3
		whole := s.bytes[:size]
		s.bytes = s.bytes[size:]
		if i, ok := slowItem(whole); ok {
			f.do(s, i)
		} else {
			s.broken = true
			f.counts.Broken++
		}
		f.noteReach()
	}
	return api.OK
}

// slowItem reads whole bytes by making those of what they seem to be.
func slowItem(whole []byte) (api.Item, bool) {
	body := whole[1 : len(whole)-2]
	var i api.Item
	switch {
	case len(body) == 9 && body[0] == 2:
		i = mark(slowNumber(body[1:]))
	case len(body) >= 23 && len(body) <= 30 && body[0] == 1:
		n := len(body) - 20
		i = event(string(body[2:n]), slowNumber(body[n:n+8]), slowNumber(body[n+8:n+16]), uint32(slowNumber(body[n+16:])))
	default:
		return api.Item{}, false
	}
	return i, bytes.Equal(bytesOf(i), whole)
}

func slowNumber(b []byte) int64 {
	n, unit := int64(0), int64(1)
	for _, x := range b {
		n += int64(x) * unit
		unit *= 256
	}
	return n
}

func (f *slowFlow) do(s *slowSource, i api.Item) {
	line, is := f.line()
	going := f.goingOn()
	switch {
	case i.Kind == api.Mark:
		f.counts.Marks++
		s.times = append(s.times, max(-1<<61, min(1<<61, i.Time)))
	case i.Time < -1<<61 || i.Time > 1<<61:
		f.counts.Range++
	case is && i.Time < line:
		f.counts.Late++
		s.times = append(s.times, i.Time)
	case !going[i.Key] && len(going) >= f.config.Keys:
		f.counts.Full++
	default:
		f.counts.Taken++
		f.taken = append(f.taken, i)
		s.times = append(s.times, i.Time)
	}
}

func (f *slowFlow) noteReach() {
	least, is := int64(math.MaxInt64), false
	for _, s := range f.sources {
		if s.broken || len(s.times) == 0 {
			continue
		}
		greatest := int64(math.MinInt64)
		for _, t := range s.times {
			greatest = max(greatest, t)
		}
		least, is = min(least, greatest-f.config.Late), true
	}
	if is {
		f.lines = append(f.lines, least)
	}
}

func (f *slowFlow) line() (int64, bool) {
	if len(f.lines) == 0 {
		return 0, false
	}
	greatest := f.lines[0]
	for _, l := range f.lines {
		greatest = max(greatest, l)
	}
	return greatest, true
}

// goingOn looks into each window of each event.
func (f *slowFlow) goingOn() map[string]bool {
	line, is := f.line()
	going := map[string]bool{}
	for _, i := range f.taken {
		for start := i.Time; start > i.Time-f.config.Size; start-- {
			if start%f.config.Slide == 0 && (!is || start+f.config.Size > line) {
				going[i.Key] = true
			}
		}
	}
	return going
}

// take puts each event into each of its windows that is finished and was never
// told.
func (f *slowFlow) take() []api.Window {
	line, is := f.line()
	found := map[slowName][]api.Item{}
	for _, i := range f.taken {
		for start := i.Time; start > i.Time-f.config.Size; start-- {
			name := slowName{start, i.Key}
			if is && start%f.config.Slide == 0 && start+f.config.Size <= line && !f.told[name] {
				found[name] = append(found[name], i)
			}
		}
	}
	var out []api.Window
	for name, items := range found {
		f.told[name] = true
		out = append(out, slowWindow(name, items))
	}
	slices.SortFunc(out, func(a, b api.Window) int {
		if a.Start != b.Start {
			return int(max(-1, min(1, a.Start-b.Start)))
		}
		return strings.Compare(a.Key, b.Key)
	})
	return out
}

func slowWindow(name slowName, items []api.Item) api.Window {
	w := window(name.key, name.start, len(items), 0, math.MaxInt64, math.MinInt64)
	for _, i := range items {
		w.Sum += i.Value
		w.Min, w.Max = min(w.Min, i.Value), max(w.Max, i.Value)
		if !slices.Contains(w.Tags, i.Tag) {
			w.Tags = append(w.Tags, i.Tag)
		}
	}
	slices.Sort(w.Tags)
	return w
}

// chance makes items that meet each other: few keys, times that go up slowly,
// and now and then one of the edges (in a thousand, as often as is said).
type chance struct {
	*rand.Rand
	now int64
}

func (r *chance) time(edges int) int64 {
	if r.Intn(1000) < edges {
		return []int64{math.MinInt64, math.MaxInt64, -api.MaxTime - 1, api.MaxTime + 1, -api.MaxTime}[r.Intn(5)]
	}
	r.now += int64(r.Intn(4))
	return r.now - int64(r.Intn(20))
}

func (r *chance) bytes() []byte {
	switch n := r.Intn(80); {
	case n == 0:
		return wrongItem()
	case n == 1:
		return sealed([]byte("\x03no item")[:r.Intn(9)])
	case n < 16:
		return bytesOf(mark(r.time(10)))
	}
	value := int64(r.Uint64())
	if r.Intn(2) == 0 {
		value = int64(r.Intn(9) - 4)
	}
	return bytesOf(event(string(rune('a'+r.Intn(5))), r.time(60), value, uint32(r.Intn(5))))
}

// P4 to P8: the program does as the slow flow does, whatever is done to it.
func TestAsTheSlowFlow(t *testing.T) {
	rounds := 1500
	if testing.Short() {
		rounds = 100
	}
	sum, windows, most := api.Counts{}, 0, 0
	wantTake := func(f *sill.Flow, slow *slowFlow) {
		t.Helper()
		want := slow.take()
		wantWindows(t, f, want...)
		windows += len(want)
		for _, w := range want {
			most = max(most, w.Count)
		}
	}
	for seed := range rounds {
		r := &chance{Rand: rand.New(rand.NewSource(int64(seed)))}
		size := 1 + r.Int63n(12)
		c := api.Config{Size: size, Slide: 1 + r.Int63n(size), Late: r.Int63n(6), Keys: 1 + r.Intn(3)}
		f, slow := newFlow(t, c), newSlow(c)
		r.now = r.Int63n(50) - 60
		takes := 1 + r.Intn(40)
		var unsent [8][]byte
		for range 100 {
			source := r.Intn(3)
			if r.Intn(30) == 0 {
				source = []int{-1, 8, 7, 3}[r.Intn(4)]
			}
			var got, want api.Errno
			switch n := r.Intn(20); {
			case n < 4:
				got, want = f.Open(source), slow.open(source)
			case n == 4:
				got, want = f.Close(source), slow.close(source)
				unsent[source&7] = nil
			default:
				at := &unsent[source&7]
				for range r.Intn(4) {
					*at = append(*at, r.bytes()...)
				}
				n := r.Intn(len(*at) + 1)
				if r.Intn(2) == 0 {
					n = len(*at)
				}
				got, want = f.Feed(source, (*at)[:n]), slow.feed(source, (*at)[:n])
				*at = (*at)[n:]
			}
			wantErrno(t, "a call", got, want)
			wantCounts(t, f, slow.counts)
			if line, is := slow.line(); is {
				wantLine(t, f, line)
			} else {
				wantNoLine(t, f)
			}
			if r.Intn(takes) == 0 {
				wantTake(f, slow)
			}
			if t.Failed() {
				t.Fatalf("seed %d, %+v", seed, c)
			}
		}
		wantTake(f, slow)
		sum = added(sum, f.Counts())
	}
	if windows < 10*rounds || most < 5 {
		t.Errorf("of all rounds came %d windows, of at most %d events", windows, most)
	}
	// so that the chances above do not come to nothing unseen
	for _, n := range []int{sum.Taken, sum.Late, sum.Range, sum.Full, sum.Marks, sum.Broken} {
		if n < rounds/2 {
			t.Errorf("the counts of all rounds are few: %+v", sum)
		}
	}
}

func added(a, b api.Counts) api.Counts {
	return api.Counts{Taken: a.Taken + b.Taken, Late: a.Late + b.Late, Range: a.Range + b.Range, Full: a.Full + b.Full, Marks: a.Marks + b.Marks, Broken: a.Broken + b.Broken}
}

// P1: bytes of any kind end in an answer, and never in a count too many.
func FuzzFeed(f *testing.F) {
	f.Add(joined(event("a", 3, 7, 1), mark(5)), 5)
	f.Add(append(wrongItem(), 1, 2, 3), 1)
	f.Add([]byte{}, 0)
	f.Fuzz(func(t *testing.T, b []byte, cut int) {
		c := api.Config{Size: 10, Slide: 5, Late: 2, Keys: 2}
		flow, slow := flowOf(t, c, 0), newSlow(c)
		slow.open(0)
		cut = max(0, min(cut, len(b)))
		for _, piece := range [][]byte{b[:cut], b[cut:]} {
			wantErrno(t, "Feed", flow.Feed(0, piece), slow.feed(0, piece))
			wantCounts(t, flow, slow.counts)
		}
		line, is := slow.line()
		if got, gotIs := flow.Line(); got != line || gotIs != is {
			t.Errorf("Line = %d, %v, want %d, %v", got, gotIs, line, is)
		}
		wantWindows(t, flow, slow.take()...)
	})
}
