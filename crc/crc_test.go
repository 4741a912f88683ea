package crc_test

import (
	"bytes"
	"hash/crc32"
	"math/rand/v2"
	"testing"

	"treadle/api"
	"treadle/crc"
)

const (
	ofNine = 0xe3069283
	ofZero = 0x527d5351
	ofOne  = 0xa016d052
)

// slowSum is the chapter's own words, bit by bit.
func slowSum(p []byte) uint32 {
	c := ^uint32(0)
	for _, b := range p {
		c ^= uint32(b)
		c = slowByte(c)
	}
	return ^c
}

func slowByte(c uint32) uint32 {
	for range 8 {
		if c&1 == 1 {
			c = c>>1 ^ 0x82f63b78
		} else {
			c >>= 1
		}
	}
	return c
}

func librarySum(p []byte) uint32 {
	return crc32.Checksum(p, crc32.MakeTable(crc32.Castagnoli))
}

func source() *rand.Rand { return rand.New(rand.NewPCG(3, 1)) }

func someBytes(r *rand.Rand, n int) []byte {
	p := make([]byte, n)
	for i := range p {
		p[i] = byte(r.Uint32())
	}
	return p
}

func fill(b []byte, c byte) {
	b = b[:cap(b)]
	for i := range b {
		b[i] = c
	}
}

// roomy is a copy of p with spare room behind its end, which is filled, too.
func roomy(p []byte) []byte {
	b := make([]byte, len(p), len(p)+16)
	fill(b, 0x5a)
	copy(b, p)
	return b
}

// P3.1: known sums, the chapter's examples among them.
func TestSumExamples(t *testing.T) {
	for _, c := range []struct {
		parts [][]byte
		want  uint32
	}{
		{nil, 0},
		{[][]byte{nil}, 0},
		{[][]byte{{}, nil, {}}, 0},
		{[][]byte{[]byte("123456789")}, ofNine},
		{[][]byte{[]byte("1234"), nil, []byte("5678"), []byte("9"), {}}, ofNine},
		{[][]byte{{0}}, ofZero},
		{[][]byte{{1}}, ofOne},
		{[][]byte{make([]byte, 32)}, 0x8a9136aa},
		{[][]byte{bytes.Repeat([]byte{0xff}, 32)}, 0x62a8ab43},
	} {
		if got := crc.Sum(c.parts...); got != c.want {
			t.Errorf("Sum(%q): %08x, not %08x", c.parts, got, c.want)
		}
	}
}

// P3.1: every single byte, and texts of many lengths, as the chapter reckons and as the library does.
func TestSumIsTheChapters(t *testing.T) {
	for b := range 256 {
		p := []byte{byte(b)}
		if got, want := crc.Sum(p), slowSum(p); got != want {
			t.Errorf("Sum of byte %d: %08x, not %08x", b, got, want)
		}
	}
	r := source()
	for _, n := range []int{0, 1, 2, 3, 4, 5, 7, 8, 9, 31, 32, 33, 255, 256, 257, 1000, 70000} {
		p := someBytes(r, n)
		if got := crc.Sum(p); got != slowSum(p) || got != librarySum(p) {
			t.Errorf("Sum of %d bytes: %08x, not %08x", n, got, slowSum(p))
		}
	}
}

// P3.1: More goes on from any sum, at every cut.
func TestMore(t *testing.T) {
	if got := crc.More(crc.Sum([]byte("123")), []byte("456789")); got != ofNine {
		t.Errorf("More: %08x, not %08x", got, uint32(ofNine))
	}
	r := source()
	p := someBytes(r, 100)
	want := crc.Sum(p)
	for cut := range len(p) + 1 {
		if got := crc.More(crc.Sum(p[:cut]), p[cut:]); got != want {
			t.Errorf("More from byte %d on: %08x, not %08x", cut, got, want)
		}
	}
	table := crc32.MakeTable(crc32.Castagnoli)
	for range 200 {
		c, q := r.Uint32(), someBytes(r, r.IntN(20))
		if got, want := crc.More(c, q), crc32.Update(c, table, q); got != want {
			t.Errorf("More(%08x, %x): %08x, not %08x", c, q, got, want)
		}
	}
	for _, c := range []uint32{0, 1, ofNine, 1<<32 - 1} {
		if crc.More(c, nil) != c || crc.More(c, []byte{}) != c {
			t.Errorf("More(%08x) over nothing is another sum", c)
		}
	}
}

// P3.5: however bytes are cut, their sum is one, and is More of 0 over them.
func TestSumOfAnyParts(t *testing.T) {
	r := source()
	for range 300 {
		p := someBytes(r, r.IntN(200))
		want := slowSum(p)
		var parts [][]byte
		more := uint32(0)
		for rest := p; ; {
			n := r.IntN(len(rest) + 1)
			if r.IntN(4) == 0 {
				n = min(n, 1)
			}
			parts = append(parts, rest[:n])
			more = crc.More(more, rest[:n])
			rest = rest[n:]
			if len(rest) == 0 {
				break
			}
		}
		if got := crc.Sum(parts...); got != want || more != want || crc.More(0, p) != want {
			t.Fatalf("%x in %d parts: Sum %08x, More %08x, not %08x", p, len(parts), got, more, want)
		}
	}
}

// P3.4: the lowest byte comes first.
func TestBytes(t *testing.T) {
	for c, want := range map[uint32][4]byte{
		0:          {},
		1:          {1, 0, 0, 0},
		0x01020304: {4, 3, 2, 1},
		ofNine:     {0x83, 0x92, 0x06, 0xe3},
		1<<32 - 1:  {255, 255, 255, 255},
		0x80000000: {0, 0, 0, 0x80},
	} {
		if got := crc.Bytes(c); got != want {
			t.Errorf("Bytes(%08x): %v, not %v", c, got, want)
		}
	}
}

// P3.4: sealed bytes are the bytes and their sum, and open to the bytes.
func TestSealAndOpen(t *testing.T) {
	r := source()
	for n := range 300 {
		p := someBytes(r, n)
		sum := crc.Bytes(slowSum(p))
		sealed := crc.Seal(p)
		if !bytes.Equal(sealed, append(bytes.Clone(p), sum[:]...)) {
			t.Fatalf("Seal(%x): %x", p, sealed)
		}
		if got, e := crc.Open(sealed); !bytes.Equal(got, p) || e != api.OK {
			t.Fatalf("Open(%x): %x, %v", sealed, got, e)
		}
	}
}

// P3.4: the chapter's examples, and R3: nothing stands beside an error.
func TestSealExamples(t *testing.T) {
	for _, p := range [][]byte{nil, {}} {
		if got := crc.Seal(p); !bytes.Equal(got, make([]byte, 4)) {
			t.Errorf("Seal of nothing: %x", got)
		}
	}
	for _, c := range []struct {
		p    []byte
		want []byte
		e    api.Errno
	}{
		{nil, nil, api.ErrShort},
		{[]byte{}, nil, api.ErrShort},
		{[]byte{0}, nil, api.ErrShort},
		{[]byte{0, 0, 0}, nil, api.ErrShort},
		{[]byte{1, 2, 3}, nil, api.ErrShort},
		{[]byte{0, 0, 0, 0}, nil, api.OK},
		{[]byte{1, 0, 0, 0}, nil, api.ErrSum},
		{[]byte{0, 1, 0, 0}, nil, api.ErrSum},
		{[]byte{0, 0, 1, 0}, nil, api.ErrSum},
		{[]byte{0, 0, 0, 1}, nil, api.ErrSum},
		{[]byte{0, 0x51, 0x53, 0x7d, 0x52}, []byte{0}, api.OK},
		{[]byte{0, 0x52, 0x7d, 0x53, 0x51}, nil, api.ErrSum},
		{[]byte{1, 0x51, 0x53, 0x7d, 0x52}, nil, api.ErrSum},
		{[]byte{0, 0, 0, 0, 0}, nil, api.ErrSum},
		{[]byte("123456789\x83\x92\x06\xe3"), []byte("123456789"), api.OK},
		{[]byte("123456789\x83\x92\x06"), nil, api.ErrSum},
		{[]byte("123456789\x83\x92\x06\xe3\x00"), nil, api.ErrSum},
	} {
		got, e := crc.Open(c.p)
		if !bytes.Equal(got, c.want) || e != c.e {
			t.Errorf("Open(%x): %x, %v, not %x, %v", c.p, got, e, c.want, c.e)
		}
	}
}

// turn turns the bits of pattern from bit first on.
func turn(p []byte, first int, pattern uint32) []byte {
	q := bytes.Clone(p)
	for i := range 32 {
		if bit := first + i; pattern>>i&1 == 1 {
			q[bit/8] ^= 1 << (bit % 8)
		}
	}
	return q
}

// P3.7: bits turned among thirty-two neighbouring ones are told, in the bytes,
// in the sum, and where they reach from one into the other.
func TestTurnedBitsAreTold(t *testing.T) {
	r := source()
	for _, n := range []int{0, 1, 2, 3, 4, 5, 40} {
		sealed := crc.Seal(someBytes(r, n))
		for first := 0; first+32 <= 8*len(sealed); first++ {
			patterns := []uint32{1, 1 << 31, 1<<31 | 1, 1<<32 - 1, 3 << 30, 0x82f63b78, 0x05ec76f1}
			for range 8 {
				patterns = append(patterns, r.Uint32()|1)
			}
			for _, pattern := range patterns {
				got, e := crc.Open(turn(sealed, first, pattern))
				if len(got) != 0 || e != api.ErrSum {
					t.Fatalf("%d bytes sealed, %08x turned from bit %d on: %x, %v", n, pattern, first, got, e)
				}
			}
		}
	}
}

// P3.7: each choice of bits of one byte and its sum's nearest ones, all of them.
func TestEveryShortTurnIsTold(t *testing.T) {
	sealed := crc.Seal([]byte{0xc3})
	for first := 0; first+32 <= 8*len(sealed); first++ {
		for low := uint32(1); low < 1<<12; low++ {
			if _, e := crc.Open(turn(sealed, first, low)); e != api.ErrSum {
				t.Fatalf("%08x turned from bit %d on: %v", low, first, e)
			}
			if _, e := crc.Open(turn(sealed, first, low<<20)); e != api.ErrSum {
				t.Fatalf("%08x turned from bit %d on: %v", low<<20, first, e)
			}
		}
	}
}

// R4: what is handed in stays as it is, its spare room too.
func TestArgumentsStay(t *testing.T) {
	whole := roomy([]byte("123456789"))
	sealed := roomy(crc.Seal([]byte("123456789")))
	spoilt := roomy([]byte("12345"))
	parts := [][]byte{whole[:4], whole[4:7], whole[7:]}
	before := [][]byte{bytes.Clone(whole[:cap(whole)]), bytes.Clone(sealed[:cap(sealed)]), bytes.Clone(spoilt[:cap(spoilt)])}
	crc.Sum(parts...)
	crc.More(7, whole)
	crc.Seal(whole)
	crc.Open(sealed)
	crc.Open(spoilt)
	for i, p := range [][]byte{whole, sealed, spoilt} {
		if !bytes.Equal(p[:cap(p)], before[i]) {
			t.Errorf("argument %d was changed: %x", i, p[:cap(p)])
		}
	}
	if len(parts) != 3 || len(parts[0]) != 4 || len(parts[1]) != 3 || len(parts[2]) != 2 {
		t.Error("the list of parts was changed")
	}
}

// R4: an answer is new memory, spare room too, and nothing handed in is kept.
func TestAnswersAreNew(t *testing.T) {
	p := roomy([]byte("123456789"))
	first, second := crc.Seal(p), crc.Seal(p)
	opened, e := crc.Open(first)
	again, f := crc.Open(first)
	if e != api.OK || f != api.OK {
		t.Fatal("what was sealed is not", e, f)
	}
	fill(second, 1)
	fill(again, 2)
	if string(p) != "123456789" || !bytes.Equal(p[9:cap(p)], bytes.Repeat([]byte{0x5a}, 16)) {
		t.Errorf("an answer shares memory with what was sealed: %x", p[:cap(p)])
	}
	if !bytes.Equal(first, []byte("123456789\x83\x92\x06\xe3")) {
		t.Errorf("an answer shares memory with another: %x", first)
	}
	fill(p, 3)
	fill(first, 4)
	if string(opened) != "123456789" {
		t.Errorf("an answer shares memory with what was opened: %x", opened)
	}
}

// R4: opened nothing shares no memory with the sum behind it either.
func TestOpenedNothingIsNew(t *testing.T) {
	p := roomy(make([]byte, 4))
	got, e := crc.Open(p)
	if e != api.OK || len(got) != 0 {
		t.Fatal(got, e)
	}
	fill(got, 9)
	if !bytes.Equal(p, make([]byte, 4)) {
		t.Errorf("shared: %x", p)
	}
}

// R5: what is answered hangs on no earlier call.
func TestSumsAreApart(t *testing.T) {
	want := crc.Sum([]byte("123456789"))
	crc.Sum([]byte("other"))
	crc.More(1, []byte("other"))
	crc.Open([]byte{1, 2, 3, 4})
	if got := crc.Sum([]byte("123456789")); got != want {
		t.Errorf("%08x, then %08x", want, got)
	}
}
