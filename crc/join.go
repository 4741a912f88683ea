package crc

import (
	"treadle/api"
)

const (
	// one is the polynomial 1: the highest power stands in the lowest bit.
	one = 1 << 31
	// aByte is the power by which one byte moves on what is ahead of it.
	aByte = one >> 8
)

// Join is the sum of two texts of which the sums are known, and how long the second one is.
func Join(a, b uint32, n int) (uint32, api.Errno) {
	if n < 0 {
		return 0, api.ErrArg
	}
	return moved(a, n) ^ b, api.OK
}

// Turned is the sum when the bits of mask are turned in the byte at a place of a text of some size.
func Turned(c uint32, size, at int, mask byte) (uint32, api.Errno) {
	if size < 0 {
		return 0, api.ErrArg
	}
	if at < 0 || at >= size {
		return 0, api.ErrPlace
	}
	return c ^ moved(uint32(mask), size-at), api.OK
}

// moved is c moved on over n bytes 0. It squares its way up, since n may be
// as great as an int can be.
func moved(c uint32, n int) uint32 {
	step := uint32(aByte)
	for ; n > 0; n >>= 1 {
		if n&1 == 1 {
			c = times(c, step)
		}
		step = times(step, step)
	}
	return c
}

// times multiplies two polynomials and leaves what the division by
// Castagnoli's leaves.
func times(a, b uint32) uint32 {
	product := uint32(0)
	for power := uint32(one); power != 0; power >>= 1 {
		if a&power != 0 {
			product ^= b
		}
		b = shift(b)
	}
	return product
}
