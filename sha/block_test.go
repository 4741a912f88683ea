package sha_test

import (
	"bytes"
	"crypto/sha256"
	"encoding"
	"encoding/binary"
	"math"
	"math/big"
	"math/rand/v2"
	"testing"

	"treadle/api"
	"treadle/sha"
)

// standing is the library's hash, brought to stand at any words, bytes and length.
func standing(t *testing.T, s api.ShaState) func(more []byte) (api.Digest, []byte) {
	t.Helper()
	b := []byte("sha\x03")
	for _, w := range s.H {
		b = binary.BigEndian.AppendUint32(b, w)
	}
	b = append(b, s.Buf...)
	b = append(b, make([]byte, 64-len(s.Buf))...)
	b = binary.BigEndian.AppendUint64(b, s.N)
	return func(more []byte) (api.Digest, []byte) {
		h := sha256.New()
		if err := h.(encoding.BinaryUnmarshaler).UnmarshalBinary(b); err != nil {
			t.Fatal(err)
		}
		h.Write(more)
		now, err := h.(encoding.BinaryMarshaler).MarshalBinary()
		if err != nil {
			t.Fatal(err)
		}
		return api.Digest(h.Sum(nil)), now[4:36]
	}
}

func someWords(g *rand.Rand) [8]uint32 {
	var h [8]uint32
	for i := range h {
		h[i] = g.Uint32()
	}
	return h
}

func someBytes(g *rand.Rand, n int) []byte {
	b := make([]byte, n)
	for i := range b {
		b[i] = byte(g.Uint32())
	}
	return b
}

func wordsOf(b []byte) [8]uint32 {
	var h [8]uint32
	for i := range h {
		h[i] = binary.BigEndian.Uint32(b[4*i:])
	}
	return h
}

// rootWord is the first 32 bits of the fractional part of n's root of that degree.
func rootWord(n int64, degree int64) uint32 {
	low, high := new(big.Int), new(big.Int).Lsh(big.NewInt(n), 32)
	want := new(big.Int).Lsh(big.NewInt(n), uint(32*degree))
	for one := big.NewInt(1); new(big.Int).Sub(high, low).Cmp(one) > 0; {
		mid := new(big.Int).Add(low, high)
		mid.Rsh(mid, 1)
		if new(big.Int).Exp(mid, big.NewInt(degree), nil).Cmp(want) <= 0 {
			low = mid
		} else {
			high = mid
		}
	}
	return uint32(low.Uint64())
}

func primes(n int) []int64 {
	var l []int64
	for p := int64(2); len(l) < n; p++ {
		if big.NewInt(p).ProbablyPrime(0) {
			l = append(l, p)
		}
	}
	return l
}

// byTheWords is one block as the chapter's section Words has it, step by step, its constants worked out from the primes.
func byTheWords(first [8]uint32, block [64]byte) [8]uint32 {
	rotr := func(x uint32, n int) uint32 { return x>>n | x<<(32-n) }
	var w [64]uint32
	for t := range w {
		if t < 16 {
			w[t] = binary.BigEndian.Uint32(block[4*t:])
			continue
		}
		s0 := rotr(w[t-15], 7) ^ rotr(w[t-15], 18) ^ w[t-15]>>3
		s1 := rotr(w[t-2], 17) ^ rotr(w[t-2], 19) ^ w[t-2]>>10
		w[t] = s1 + w[t-7] + s0 + w[t-16]
	}
	a, b, c, d, e, f, g, h := first[0], first[1], first[2], first[3], first[4], first[5], first[6], first[7]
	for t, p := range primes(64) {
		t1 := h + (rotr(e, 6) ^ rotr(e, 11) ^ rotr(e, 25)) + (e&f ^ ^e&g) + rootWord(p, 3) + w[t]
		t2 := (rotr(a, 2) ^ rotr(a, 13) ^ rotr(a, 22)) + (a&b ^ a&c ^ b&c)
		h, g, f, e, d, c, b, a = g, f, e, d+t1, c, b, a, t1+t2
	}
	for i, x := range [8]uint32{a, b, c, d, e, f, g, h} {
		first[i] += x
	}
	return first
}

// S1: what a block makes of the beginning, of noughts, of the greatest words, of any words.
func TestCompress(t *testing.T) {
	g := rand.New(rand.NewPCG(2, 1))
	full := [8]uint32{}
	for i := range full {
		full[i] = math.MaxUint32
	}
	firsts := [][8]uint32{{}, full, sha.New().State().H}
	blocks := [][64]byte{{}, [64]byte(bytes.Repeat([]byte{255}, 64)), [64]byte(bytes.Repeat([]byte{128, 0, 0, 1}, 16))}
	for range 5 {
		firsts = append(firsts, someWords(g))
		blocks = append(blocks, [64]byte(someBytes(g, 64)))
	}
	for _, h := range firsts {
		for _, b := range blocks {
			got := sha.Compress(h, b)
			if want := byTheWords(h, b); got != want {
				t.Errorf("Compress(%x, %x): %x, not %x", h, b, got, want)
			}
			_, now := standing(t, api.ShaState{H: h})(b[:])
			if want := wordsOf(now); got != want {
				t.Errorf("Compress(%x, %x): %x, the library %x", h, b, got, want)
			}
		}
	}
}

// S1: the beginning is that of the square roots.
func TestBeginning(t *testing.T) {
	got := sha.New().State().H
	for i, p := range primes(8) {
		if want := rootWord(p, 2); got[i] != want {
			t.Errorf("H[%d]: %x, not %x", i, got[i], want)
		}
	}
	if got[0] != 0x6a09e667 || got[7] != 0x5be0cd19 {
		t.Errorf("the beginning: %x", got)
	}
}

// holdPad holds a padding against the words of the chapter.
func holdPad(t *testing.T, n uint64) {
	t.Helper()
	p, e := sha.Pad(n)
	if e != api.OK || len(p) < 9 || len(p) > 72 || (n+uint64(len(p)))%64 != 0 {
		t.Errorf("Pad(%d): %x, %d", n, p, e)
		return
	}
	k := len(p) - 8
	if p[0] != 128 || !bytes.Equal(p[1:k], make([]byte, k-1)) || binary.BigEndian.Uint64(p[k:]) != 8*n {
		t.Errorf("Pad(%d): %x", n, p)
	}
}

// S1: the padding, of few bytes and of nearly too many.
func TestPad(t *testing.T) {
	for n := range uint64(300) {
		holdPad(t, n)
		holdPad(t, 1<<32+n)
		holdPad(t, api.MaxHashed-n)
	}
	for n, want := range map[uint64]int{0: 64, 3: 61, 54: 10, 55: 9, 56: 72, 57: 71, 63: 65, 64: 64, 118: 10, 119: 9, 120: 72, api.MaxHashed: 65} {
		if p, e := sha.Pad(n); len(p) != want || e != api.OK {
			t.Errorf("Pad(%d) has %d bytes, not %d; %d", n, len(p), want, e)
		}
	}
	want := "\x80" + string(make([]byte, 52)) + "\x00\x00\x00\x00\x00\x00\x00\x18"
	if p, e := sha.Pad(3); string(p) != want || e != api.OK {
		t.Errorf("Pad(3): %x, %d", p, e)
	}
}

// S1, R3: too many bytes have no padding.
func TestPadTooLong(t *testing.T) {
	for _, n := range []uint64{api.MaxHashed + 1, 1<<61 + 1, 1 << 63, math.MaxUint64} {
		if p, e := sha.Pad(n); e != api.ErrShaLong || len(p) != 0 {
			t.Errorf("Pad(%d): %x, %d", n, p, e)
		}
	}
}
