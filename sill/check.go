package sill

// checkTable has what four steps of the check make of each half of a byte.
// Sixteen words are enough: bits above the lowest four are only moved down by
// four steps, so that a byte is done in two looks.
var checkTable [16]uint16

func init() {
	for half := range checkTable {
		checkTable[half] = fourSteps(uint16(half))
	}
}

func fourSteps(c uint16) uint16 {
	for range 4 {
		odd := c%2 == 1
		c /= 2
		if odd {
			c ^= 0xA001
		}
	}
	return c
}

func check(b []byte) uint16 {
	c := uint16(65535)
	for _, x := range b {
		c ^= uint16(x)
		c = c>>4 ^ checkTable[c&15]
		c = c>>4 ^ checkTable[c&15]
	}
	return c
}
