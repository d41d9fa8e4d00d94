package sill

import (
	"bytes"
	"testing"

	"sill/api"
)

// slowCheck is the check as the document words it, without a table.
func slowCheck(b []byte) uint16 {
	c := 65535
	for _, x := range b {
		c ^= int(x)
		for range 8 {
			half := c / 2
			if c%2 == 1 {
				half ^= 0xA001
			}
			c = half
		}
	}
	return uint16(c)
}

// wantChecks: by steps, as the calls have it, and by the table.
func wantChecks(t *testing.T, b []byte, want uint16) {
	t.Helper()
	if got := check(b); got != want {
		t.Fatalf("check(%x) = %#x, want %#x", b, got, want)
	}
	if got := TableCheck(b); got != want {
		t.Fatalf("TableCheck(%x) = %#x, want %#x", b, got, want)
	}
}

func TestCheckOfKnownBytes(t *testing.T) {
	for _, c := range []struct {
		in   string
		want uint16
	}{
		{"", 0xFFFF},
		{"\x00", 0x40BF},
		{"123456789", 0x4B37},
	} {
		wantChecks(t, []byte(c.in), c.want)
	}
}

func TestCheckIsThatOfTheDocument(t *testing.T) {
	for first := range 256 {
		for second := range 256 {
			b := []byte{byte(first), byte(second)}
			wantChecks(t, b, slowCheck(b))
		}
	}
	long := make([]byte, 255)
	for k := range long {
		long[k] = byte(k * 37)
		wantChecks(t, long[:k+1], slowCheck(long[:k+1]))
	}
}

func TestInitFillsTheTable(t *testing.T) {
	for half, got := range checkTable {
		want := uint16(half)
		for range 4 {
			want = want>>1 ^ want&1*0xA001
		}
		if got != want {
			t.Errorf("checkTable[%d] = %#x, want %#x", half, got, want)
		}
	}
}

func TestTableCheckLeavesBytes(t *testing.T) {
	b := []byte("123456789spare")
	TableCheck(b[:9])
	TableCheck(nil)
	if string(b) != "123456789spare" {
		t.Errorf("TableCheck wrote into its bytes: %q", b)
	}
}

// The calls that the document lists answer the same whatever the table holds.
func TestCallsDoWithoutTheTable(t *testing.T) {
	i := api.Item{Kind: api.Event, Key: "k", Time: 3, Value: -2, Tag: 9}
	framed, _ := Frame(i)
	filled := checkTable
	defer func() { checkTable = filled }()
	checkTable = [16]uint16{}
	if TableCheck([]byte("1")) == check([]byte("1")) {
		t.Error("TableCheck does not read the table")
	}
	if b, e := Frame(i); !bytes.Equal(b, framed) || e != api.OK {
		t.Errorf("Frame = %x, %d, want %x", b, e, framed)
	}
	if got, n, e := Unframe(framed); got != i || n != len(framed) || e != api.OK {
		t.Errorf("Unframe = %+v, %d, %d", got, n, e)
	}
	f, _ := New(api.Config{Size: 1, Slide: 1, Keys: 1})
	f.Open(0)
	f.Feed(0, framed)
	if got := f.Counts(); got != (api.Counts{Taken: 1}) {
		t.Errorf("Counts = %+v", got)
	}
}
