package sill

import "testing"

// slowCheck is the check as the document words it, without a table.
func slowCheck(b []byte) uint16 {
	c := 65535
	for _, x := range b {
		c ^= int(x)
		for range 8 {
			half := c / 2
			if c%2 == 1 {
				half ^= 0xA001
			}
			c = half
		}
	}
	return uint16(c)
}

func TestCheckOfKnownBytes(t *testing.T) {
	for _, c := range []struct {
		in   string
		want uint16
	}{
		{"", 0xFFFF},
		{"\x00", 0x40BF},
		{"123456789", 0x4B37},
	} {
		if got := check([]byte(c.in)); got != c.want {
			t.Errorf("check(%x) = %#x, want %#x", c.in, got, c.want)
		}
	}
}

func TestCheckIsThatOfTheDocument(t *testing.T) {
	for first := range 256 {
		for second := range 256 {
			b := []byte{byte(first), byte(second)}
			if got, want := check(b), slowCheck(b); got != want {
				t.Fatalf("check(%x) = %#x, want %#x", b, got, want)
			}
		}
	}
	long := make([]byte, 255)
	for k := range long {
		long[k] = byte(k * 37)
		if got, want := check(long[:k+1]), slowCheck(long[:k+1]); got != want {
			t.Fatalf("check(%x) = %#x, want %#x", long[:k+1], got, want)
		}
	}
}
