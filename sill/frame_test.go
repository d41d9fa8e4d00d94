package sill_test

import (
	"bytes"
	"encoding/binary"
	"math"
	"math/rand"
	"strings"
	"sync"
	"testing"

	"sill/api"
	"sill/sill"
)

func event(key string, time, value int64, tag uint32) api.Item {
	return api.Item{Kind: api.Event, Key: key, Time: time, Value: value, Tag: tag}
}

func mark(time int64) api.Item { return api.Item{Kind: api.Mark, Time: time} }

// sealed puts a body's length ahead of it and its check behind it, by the
// document's words and by nothing of the program.
func sealed(body []byte) []byte {
	c := uint16(65535)
	for _, x := range body {
		c ^= uint16(x)
		for range 8 {
			odd := c&1 == 1
			c >>= 1
			if odd {
				c ^= 0xA001
			}
		}
	}
	b := append([]byte{byte(len(body))}, body...)
	return binary.LittleEndian.AppendUint16(b, c)
}

func bytesOf(i api.Item) []byte {
	body := []byte{byte(i.Kind)}
	if i.Kind == api.Event {
		body = append(body, byte(len(i.Key)))
		body = append(body, i.Key...)
	}
	body = binary.LittleEndian.AppendUint64(body, uint64(i.Time))
	if i.Kind == api.Event {
		body = binary.LittleEndian.AppendUint64(body, uint64(i.Value))
		body = binary.LittleEndian.AppendUint32(body, i.Tag)
	}
	return sealed(body)
}

var numbers = []int64{0, 1, -1, 255, 256, -256, 0x0102030405060708, math.MinInt64, math.MaxInt64, -api.MaxTime, api.MaxTime, -api.MaxTime - 1, api.MaxTime + 1}

var keys = []string{"a", "\x00", "\xff", "ab", "abc", "\x00\x00\x00\x00", "\xff\xfe\x80\x81\x82", "sixlet", "sevenle", "eightlet", "\xff\xff\xff\xff\xff\xff\xff\xff", "aéz", "日本"}

func items() []api.Item {
	var all []api.Item
	for _, time := range numbers {
		all = append(all, mark(time))
		for _, value := range numbers {
			for _, key := range keys {
				for _, tag := range []uint32{0, 1, 0xDEADBEEF, math.MaxUint32} {
					all = append(all, event(key, time, value, tag))
				}
			}
		}
	}
	return all
}

func wantUnframe(t *testing.T, b []byte, item api.Item, size int, e api.Errno) {
	t.Helper()
	if i, n, got := sill.Unframe(b); i != item || n != size || got != e {
		t.Errorf("Unframe(%x) = %+v, %d, %d, want %+v, %d, %d", b, i, n, got, item, size, e)
	}
}

func wantNoneYet(t *testing.T, b []byte) {
	t.Helper()
	wantUnframe(t, b, api.Item{}, 0, api.OK)
}

func wantNoItem(t *testing.T, b []byte) {
	t.Helper()
	wantUnframe(t, b, api.Item{}, 0, api.ErrItem)
}

// P3: the bytes written out by hand.
func TestFrameByHand(t *testing.T) {
	for _, c := range []struct {
		item api.Item
		want string
	}{
		{mark(1), "\x09\x02\x01\x00\x00\x00\x00\x00\x00\x00\xd2\x5c"},
		{event("k", 0x0102030405060708, -2, 0xDEADBEEF), "\x17\x01\x01k\x08\x07\x06\x05\x04\x03\x02\x01\xfe\xff\xff\xff\xff\xff\xff\xff\xef\xbe\xad\xde\x62\xfc"},
	} {
		b, e := sill.Frame(c.item)
		if string(b) != c.want || e != api.OK {
			t.Errorf("Frame(%+v) = %x, %d, want %x", c.item, b, e, c.want)
		}
		wantUnframe(t, []byte(c.want), c.item, len(c.want), api.OK)
	}
}

// P3: Frame and Unframe at ordinary items and at the edges.
func TestFrameAndUnframe(t *testing.T) {
	for _, i := range items() {
		want := bytesOf(i)
		b, e := sill.Frame(i)
		if !bytes.Equal(b, want) || e != api.OK {
			t.Errorf("Frame(%+v) = %x, %d, want %x", i, b, e, want)
		}
		wantUnframe(t, want, i, len(want), api.OK)
	}
}

// P1, P3: what is no item has no bytes.
func TestFrameOfNoItem(t *testing.T) {
	for _, i := range []api.Item{
		{},
		{Key: "a", Time: 1, Value: 2, Tag: 3},
		{Kind: 3},
		{Kind: 3, Key: "a"},
		{Kind: -1, Key: "a"},
		{Kind: math.MinInt, Key: "a"},
		{Kind: math.MaxInt, Key: "a"},
		{Kind: 256 + api.Event, Key: "a"},
		{Kind: 256 + api.Mark},
		event("", 1, 2, 3),
		event("ninebytes", 1, 2, 3),
		event("日本語", 1, 2, 3),
		event(strings.Repeat("a", 256+1), 1, 2, 3),
		event(strings.Repeat("a", 1<<20), 1, 2, 3),
		{Kind: api.Mark, Key: "a"},
		{Kind: api.Mark, Key: "\x00"},
		{Kind: api.Mark, Time: 1, Value: 1},
		{Kind: api.Mark, Time: 1, Value: math.MinInt64},
		{Kind: api.Mark, Time: 1, Tag: 1},
		{Kind: api.Mark, Time: 1, Tag: 1 << 31},
	} {
		if b, e := sill.Frame(i); len(b) != 0 || e != api.ErrItem {
			t.Errorf("Frame of kind %d, key of %d bytes: %x, %d, want ErrItem", i.Kind, len(i.Key), b, e)
		}
	}
}

// P3: bytes that end within an item, with and without its rest in the spare room.
func TestUnframeOfTooFewBytes(t *testing.T) {
	wantNoneYet(t, nil)
	wantNoneYet(t, []byte{})
	for _, i := range items() {
		b := bytesOf(i)
		for k := range b {
			wantNoneYet(t, b[:k])
			wantNoneYet(t, b[:k:k])
		}
	}
}

// P3: what stands behind an item does not matter.
func TestUnframeWithBytesBehind(t *testing.T) {
	first, second := event("eightlet", 5, 6, 7), mark(8)
	one, two := bytesOf(first), bytesOf(second)
	for _, behind := range [][]byte{{0}, {0xFF}, two, two[:3], one, []byte("no item at all"), make([]byte, 1000)} {
		b := append(bytes.Clone(one), behind...)
		wantUnframe(t, b, first, len(one), api.OK)
	}
	wantUnframe(t, append(bytes.Clone(one), two...)[len(one):], second, len(two), api.OK)
}

// P3: each check but the right one is refused, as soon as it is all there and not before.
func TestUnframeOfAnotherCheck(t *testing.T) {
	for _, i := range []api.Item{mark(1), event("k", 1, 2, 3)} {
		b := bytesOf(i)
		end := len(b)
		right := binary.LittleEndian.Uint16(b[end-2:])
		for c := range 1 << 16 {
			binary.LittleEndian.PutUint16(b[end-2:], uint16(c))
			if uint16(c) == right {
				wantUnframe(t, b, i, end, api.OK)
				continue
			}
			wantNoItem(t, b)
			wantNoneYet(t, b[:end-1])
		}
	}
}

// P3: a bit that was turned anywhere behind the length is found.
func TestUnframeOfATurnedBit(t *testing.T) {
	for _, i := range []api.Item{mark(0), mark(-1), event("a", 3, 7, 1), event("eightlet", math.MinInt64, math.MaxInt64, 9)} {
		b := bytesOf(i)
		for k := 1; k < len(b); k++ {
			for bit := range 8 {
				b[k] ^= 1 << bit
				wantNoItem(t, b)
				wantNoItem(t, append(bytes.Clone(b), "behind"...))
				b[k] ^= 1 << bit
			}
		}
	}
}

func isBody(size int, kind, keySize byte) bool {
	return kind == api.Mark && size == 9 || kind == api.Event && keySize >= 1 && keySize <= 8 && size == 22+int(keySize)
}

// P3: of all lengths, kinds and lengths of a key, with a right check, just those of items are taken.
func TestUnframeOfAllShapes(t *testing.T) {
	for size := range 256 {
		body := make([]byte, size)
		for _, kind := range []byte{0, api.Event, api.Mark, 3, 0x81, 0x82, 0xFF} {
			for keySize := range 256 {
				if size > 0 {
					body[0] = kind
				}
				if size > 1 {
					body[1] = byte(keySize)
				}
				b := sealed(body)
				i, n, e := sill.Unframe(b)
				if isBody(size, kind, byte(keySize)) {
					if i.Kind != int(kind) || n != len(b) || e != api.OK || !bytes.Equal(bytesOf(i), b) {
						t.Fatalf("Unframe(%x) = %+v, %d, %d", b, i, n, e)
					}
				} else if i != (api.Item{}) || n != 0 || e != api.ErrItem {
					t.Fatalf("Unframe(%x) = %+v, %d, %d, want ErrItem", b, i, n, e)
				}
			}
		}
	}
}

// P3: a body of no item is refused when its check is there, and not before.
func TestUnframeOfABodyOfNoItem(t *testing.T) {
	noughts := string(make([]byte, 20))
	for _, body := range []string{
		"",
		"\x00",
		"\x01",
		"\x02",
		"\x01\x01",
		"\x01\x01k",
		"\x03" + noughts[:8],
		"\x02" + noughts[:7],
		"\x02" + noughts[:9],
		"\x01\x00" + noughts,
		"\x01\x01k" + noughts[:19],
		"\x01\x01k" + noughts + "\x00",
		"\x01\x02k" + noughts,
		"\x01\x00k" + noughts,
		"\x01\x09ninebytes" + noughts,
		"\x01\xffk" + noughts,
		"\x02\x01k" + noughts,
		strings.Repeat("\x01", 255),
	} {
		b := sealed([]byte(body))
		wantNoItem(t, b)
		wantNoItem(t, append(bytes.Clone(b), bytesOf(mark(1))...))
		for k := range b {
			wantNoneYet(t, b[:k])
		}
	}
}

// P1, P3: any bytes: an answer, and what is read is what Frame makes.
func TestUnframeOfAnyBytes(t *testing.T) {
	source := rand.New(rand.NewSource(1))
	for range 100000 {
		b := make([]byte, source.Intn(40))
		source.Read(b)
		if len(b) > 2 {
			b[0] = byte(source.Intn(len(b)))
			b[1] = byte(source.Intn(4))
			b[2] = byte(source.Intn(11))
		}
		lookAtUnframe(t, b)
		if len(b) < 256 {
			lookAtUnframe(t, sealed(b))
		}
	}
}

func lookAtUnframe(t *testing.T, b []byte) {
	t.Helper()
	i, n, e := sill.Unframe(b)
	if n == 0 {
		if i != (api.Item{}) || e != api.OK && e != api.ErrItem {
			t.Fatalf("Unframe(%x) = %+v, %d, %d", b, i, n, e)
		}
		allThere := len(b) > 0 && len(b) >= int(b[0])+3
		if allThere != (e == api.ErrItem) {
			t.Fatalf("Unframe(%x) answers %d, all there: %v", b, e, allThere)
		}
		return
	}
	if again, f := sill.Frame(i); e != api.OK || f != api.OK || n > len(b) || !bytes.Equal(again, b[:n]) {
		t.Fatalf("Unframe(%x) = %+v, %d, %d, of which Frame makes %x, %d", b, i, n, e, again, f)
	}
}

func FuzzUnframe(f *testing.F) {
	f.Add([]byte{})
	f.Add(bytesOf(mark(1)))
	f.Add(bytesOf(event("eightlet", -1, 1, 2)))
	f.Fuzz(func(t *testing.T, b []byte) {
		lookAtUnframe(t, b)
		if len(b) < 256 {
			lookAtUnframe(t, sealed(b))
		}
	})
}

// P2: what Frame gave may be written into, with its spare room, and nothing else is changed by it.
func TestFrameGivesNewMemory(t *testing.T) {
	for _, i := range []api.Item{mark(1), event("k", 1, 2, 3), event("eightlet", -1, -2, 3)} {
		want := bytesOf(i)
		first, _ := sill.Frame(i)
		second, _ := sill.Frame(i)
		spoil(first)
		if !bytes.Equal(second, want) {
			t.Errorf("what Frame gave was changed by another answer's owner: %x, want %x", second, want)
		}
		spoil(second)
		if third, e := sill.Frame(i); !bytes.Equal(third, want) || e != api.OK {
			t.Errorf("Frame(%+v) = %x, %d, behind spoilt answers", i, third, e)
		}
		wantUnframe(t, want, i, len(want), api.OK)
	}
}

// spoil writes into all of b and into its spare room.
func spoil(b []byte) {
	b = b[:cap(b)]
	for k := range b {
		b[k] ^= 0xFF
	}
}

// P2: what is handed to Unframe is not written into, its spare room neither, and nothing of it is kept.
func TestUnframeLeavesItsBytes(t *testing.T) {
	good := bytesOf(event("eightlet", 1, 2, 3))
	bad := bytes.Clone(good)
	bad[5] ^= 1
	for _, whole := range [][]byte{good, bad, sealed([]byte("no item")), bytesOf(mark(7))} {
		room := append(bytes.Clone(whole), "the spare room"...)
		before := bytes.Clone(room)
		for k := range len(room) + 1 {
			i, n, e := sill.Unframe(room[:k])
			if !bytes.Equal(room, before) {
				t.Fatalf("Unframe wrote into its bytes: %x, before: %x", room, before)
			}
			key := strings.Clone(i.Key)
			spoil(room)
			if i.Key != key {
				t.Errorf("the key of Unframe's item is part of the bytes that were handed in")
			}
			spoil(room)
			wantUnframe(t, room[:k], i, n, e)
		}
	}
}

// P2: an answer hangs on the arguments alone, whoever else calls.
func TestManyGoroutines(t *testing.T) {
	var group sync.WaitGroup
	for worker := range 8 {
		group.Go(func() {
			for k := range 500 {
				i := event(keys[(worker+k)%len(keys)], int64(k), int64(worker), uint32(k))
				want := bytesOf(i)
				if b, e := sill.Frame(i); !bytes.Equal(b, want) || e != api.OK {
					t.Errorf("Frame(%+v) = %x, %d, want %x", i, b, e, want)
				}
				wantUnframe(t, want, i, len(want), api.OK)
			}
		})
	}
	group.Wait()
}
