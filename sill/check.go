package sill

// checkTable has what four steps of the check make of each half of a byte.
// Sixteen words are enough: bits above the lowest four are only moved down by
// four steps, so that a byte is done in two looks.
var checkTable [16]uint16

func init() {
	for half := range checkTable {
		checkTable[half] = steps(uint16(half), 4)
	}
}

// steps does that many of the eight steps that a byte of the check takes.
func steps(c uint16, many int) uint16 {
	for range many {
		odd := c%2 == 1
		c /= 2
		if odd {
			c ^= 0xA001
		}
	}
	return c
}

// check is what Frame, Unframe and Feed hold an item's bytes against; it
// hangs on no variable of the package.
func check(b []byte) uint16 {
	c := uint16(65535)
	for _, x := range b {
		c = steps(c^uint16(x), 8)
	}
	return c
}

// TableCheck is the check of bytes too, by the table instead of by steps.
func TableCheck(b []byte) uint16 {
	c := uint16(65535)
	for _, x := range b {
		c ^= uint16(x)
		c = c>>4 ^ checkTable[c&15]
		c = c>>4 ^ checkTable[c&15]
	}
	return c
}
