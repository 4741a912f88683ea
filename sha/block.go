package sha

import (
	"math/bits"

	"treadle/api"
)

// blockSize is how many bytes a block has.
const blockSize = 64

// beginning is the first 32 bits of the fractional parts of the square roots of the first 8 primes.
var beginning = [8]uint32{
	0x6a09e667, 0xbb67ae85, 0x3c6ef372, 0xa54ff53a, 0x510e527f, 0x9b05688c, 0x1f83d9ab, 0x5be0cd19,
}

// constants is the first 32 bits of the fractional parts of the cube roots of the first 64 primes.
var constants = [64]uint32{
	0x428a2f98, 0x71374491, 0xb5c0fbcf, 0xe9b5dba5, 0x3956c25b, 0x59f111f1, 0x923f82a4, 0xab1c5ed5,
	0xd807aa98, 0x12835b01, 0x243185be, 0x550c7dc3, 0x72be5d74, 0x80deb1fe, 0x9bdc06a7, 0xc19bf174,
	0xe49b69c1, 0xefbe4786, 0x0fc19dc6, 0x240ca1cc, 0x2de92c6f, 0x4a7484aa, 0x5cb0a9dc, 0x76f988da,
	0x983e5152, 0xa831c66d, 0xb00327c8, 0xbf597fc7, 0xc6e00bf3, 0xd5a79147, 0x06ca6351, 0x14292967,
	0x27b70a85, 0x2e1b2138, 0x4d2c6dfc, 0x53380d13, 0x650a7354, 0x766a0abb, 0x81c2c92e, 0x92722c85,
	0xa2bfe8a1, 0xa81a664b, 0xc24b8b70, 0xc76c51a3, 0xd192e819, 0xd6990624, 0xf40e3585, 0x106aa070,
	0x19a4c116, 0x1e376c08, 0x2748774c, 0x34b0bcb5, 0x391c0cb3, 0x4ed8aa4a, 0x5b9cca4f, 0x682e6ff3,
	0x748f82ee, 0x78a5636f, 0x84c87814, 0x8cc70208, 0x90befffa, 0xa4506ceb, 0xbef9a3f7, 0xc67178f2,
}

// Compress is what one block makes of the eight words. They turn in variables of their own: an array that is copied for each of 64 turns takes some three times as long.
func Compress(h [8]uint32, block [64]byte) [8]uint32 {
	w := spread(block)
	a, b, c, d, e, f, g, i := h[0], h[1], h[2], h[3], h[4], h[5], h[6], h[7]
	for t := range w {
		t1 := i + greatMix1(e) + choice(e, f, g) + constants[t] + w[t]
		t2 := greatMix0(a) + majority(a, b, c)
		i, g, f, e, d, c, b, a = g, f, e, d+t1, c, b, a, t1+t2
	}
	return [8]uint32{h[0] + a, h[1] + b, h[2] + c, h[3] + d, h[4] + e, h[5] + f, h[6] + g, h[7] + i}
}

// Pad is the padding of n bytes.
func Pad(n uint64) ([]byte, api.Errno) {
	if n > api.MaxHashed {
		return nil, api.ErrShaLong
	}
	// With the byte 128, these noughts and 8 more, n comes to a multiple of 64.
	noughts := (blockSize + 55 - n%blockSize) % blockSize
	out := make([]byte, 1+noughts, 1+noughts+8)
	out[0] = 128
	return addNumber(out, 8*n), api.OK
}

// spread is W: the block's own 16 words, and 48 that are mixed of those ahead of them.
func spread(block [64]byte) [64]uint32 {
	var w [64]uint32
	for t := range 16 {
		w[t] = uint32(block[4*t])<<24 | uint32(block[4*t+1])<<16 | uint32(block[4*t+2])<<8 | uint32(block[4*t+3])
	}
	for t := 16; t < len(w); t++ {
		w[t] = smallMix1(w[t-2]) + w[t-7] + smallMix0(w[t-15]) + w[t-16]
	}
	return w
}

func smallMix0(x uint32) uint32 { return turned(x, 7) ^ turned(x, 18) ^ x>>3 }

func smallMix1(x uint32) uint32 { return turned(x, 17) ^ turned(x, 19) ^ x>>10 }

func greatMix0(x uint32) uint32 { return turned(x, 2) ^ turned(x, 13) ^ turned(x, 22) }

func greatMix1(x uint32) uint32 { return turned(x, 6) ^ turned(x, 11) ^ turned(x, 25) }

func choice(x, y, z uint32) uint32 { return x&y ^ ^x&z }

func majority(x, y, z uint32) uint32 { return x&y ^ x&z ^ y&z }

// turned is rotr: the library turns to the left alone, and by a number below 0 to the right.
func turned(x uint32, n int) uint32 { return bits.RotateLeft32(x, -n) }
