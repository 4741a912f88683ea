package crc

// castagnoli is the polynomial without its highest power, which would stand
// below the lowest bit.
const castagnoli = 0x82f63b78

// shift moves a polynomial on by one power.
func shift(c uint32) uint32 {
	if c&1 == 1 {
		return c>>1 ^ castagnoli
	}
	return c >> 1
}

// makeTable tells for each byte what eight shifts make of it. Shifts are
// linear, so eight rows are shifted and the others put together of them:
// the table is made anew for each call and must be cheap.
func makeTable() [256]uint32 {
	var table [256]uint32
	row := uint32(1)
	for bit := 128; bit > 0; bit >>= 1 {
		row = shift(row)
		for low := 0; low < 256; low += 2 * bit {
			table[low+bit] = table[low] ^ row
		}
	}
	return table
}

// over takes bytes into a sum whose bits are not yet turned.
func over(table *[256]uint32, c uint32, p []byte) uint32 {
	for _, b := range p {
		c = table[byte(c)^b] ^ c>>8
	}
	return c
}
