package crc_test

import (
	"bytes"
	"math"
	"testing"

	"treadle/api"
	"treadle/crc"
)

// slowMoved is a moved on over n bytes 0, one by one.
func slowMoved(a uint32, n int) uint32 {
	for range n {
		a = slowByte(a)
	}
	return a
}

func mustJoin(t *testing.T, a, b uint32, n int) uint32 {
	t.Helper()
	c, e := crc.Join(a, b, n)
	if e != api.OK {
		t.Fatalf("Join(%08x, %08x, %d): %v", a, b, n, e)
	}
	return c
}

func mustTurned(t *testing.T, c uint32, size, at int, mask byte) uint32 {
	t.Helper()
	c, e := crc.Turned(c, size, at, mask)
	if e != api.OK {
		t.Fatalf("Turned(%08x, %d, %d, %d): %v", c, size, at, mask, e)
	}
	return c
}

// P3.2: any two numbers, whether or not they are sums of anything.
func TestJoinOfAnyNumbers(t *testing.T) {
	r := source()
	for n := range 300 {
		a, b := r.Uint32(), r.Uint32()
		if got, want := mustJoin(t, a, b, n), slowMoved(a, n)^b; got != want {
			t.Errorf("Join(%08x, %08x, %d): %08x, not %08x", a, b, n, got, want)
		}
	}
	for _, n := range []int{1 << 16, 1<<20 + 7} {
		if got, want := mustJoin(t, ofNine, ofOne, n), slowMoved(ofNine, n)^ofOne; got != want {
			t.Errorf("Join over %d: %08x, not %08x", n, got, want)
		}
	}
}

// P3.6: joined sums are the sum of the joined.
func TestJoinIsTheSumOfBoth(t *testing.T) {
	r := source()
	for i := range 300 {
		x, y := someBytes(r, r.IntN(100)), someBytes(r, i)
		if got, want := mustJoin(t, crc.Sum(x), crc.Sum(y), len(y)), crc.Sum(x, y); got != want {
			t.Errorf("%x and %x joined: %08x, not %08x", x, y, got, want)
		}
	}
	if got := mustJoin(t, crc.Sum([]byte("1234")), crc.Sum([]byte("56789")), 5); got != ofNine {
		t.Errorf("1234 and 56789 joined: %08x", got)
	}
}

// P3.2: over no bytes at all nothing is moved.
func TestJoinOverNothing(t *testing.T) {
	for _, a := range []uint32{0, 1, ofNine, 1 << 31, 1<<32 - 1} {
		if got := mustJoin(t, a, 0, 0); got != a {
			t.Errorf("Join(%08x, 0, 0): %08x", a, got)
		}
		if got := mustJoin(t, 0, a, 0); got != a {
			t.Errorf("Join(0, %08x, 0): %08x", a, got)
		}
		if got := mustJoin(t, a, a, 0); got != 0 {
			t.Errorf("Join(%08x, %08x, 0): %08x", a, a, got)
		}
	}
}

// P3.2: the greatest n ends quickly, and moving goes in steps of any greatness.
func TestJoinOverVeryMuch(t *testing.T) {
	const most = math.MaxInt
	r := source()
	for range 1000 {
		a := r.Uint32()
		n := int(r.Uint64() >> 1)
		want := mustJoin(t, mustJoin(t, a, 0, n), 0, most-n)
		if got := mustJoin(t, a, 0, most); got != want {
			t.Fatalf("Join(%08x, 0, most): %08x, not %08x (in two steps, the first %d)", a, got, want, n)
		}
	}
	if got := mustJoin(t, 0, ofNine, most); got != ofNine {
		t.Errorf("0 moved on: %08x", got^ofNine)
	}
}

// P3.2: the polynomial is x + 1 times one whose powers of x come round in 2^31 - 1 bits;
// so does moving, in as many bytes, and one byte more is one byte.
func TestJoinComesRound(t *testing.T) {
	const round = 1<<31 - 1
	for _, a := range []uint32{1, ofNine, 1 << 31, 1<<32 - 1} {
		for _, times := range []int{1, 2, 1 << 20, 1 << 32} {
			if got := mustJoin(t, a, 0, round*times); got != a {
				t.Errorf("Join(%08x, 0, %d): %08x", a, round*times, got)
			}
			if got, want := mustJoin(t, a, 0, round*times+1), slowByte(a); got != want {
				t.Errorf("Join(%08x, 0, %d): %08x, not %08x", a, round*times+1, got, want)
			}
		}
	}
}

// P3.2, R3: no text has fewer than no bytes.
func TestJoinBelowNothing(t *testing.T) {
	for _, n := range []int{-1, -2, -5, math.MinInt} {
		for _, a := range []uint32{0, ofNine} {
			if c, e := crc.Join(a, ofOne, n); c != 0 || e != api.ErrArg {
				t.Errorf("Join(%08x, %08x, %d): %08x, %v", a, ofOne, n, c, e)
			}
		}
	}
}

// P3.3: every place of texts of many sizes, every mask.
func TestTurned(t *testing.T) {
	r := source()
	for _, size := range []int{1, 2, 3, 4, 5, 17, 100} {
		p := someBytes(r, size)
		sum := crc.Sum(p)
		for at := range size {
			for mask := range 256 {
				q := bytes.Clone(p)
				q[at] ^= byte(mask)
				if got, want := mustTurned(t, sum, size, at, byte(mask)), slowSum(q); got != want {
					t.Fatalf("Turned of %x at %d by %02x: %08x, not %08x", p, at, mask, got, want)
				}
			}
		}
	}
}

// P3.3: the chapter's example, a mask of 0, and a turn back.
func TestTurnedExamples(t *testing.T) {
	if got := mustTurned(t, ofZero, 1, 0, 1); got != ofOne {
		t.Errorf("0 turned to 1: %08x", got)
	}
	if got := mustTurned(t, ofOne, 1, 0, 1); got != ofZero {
		t.Errorf("1 turned to 0: %08x", got)
	}
	for _, at := range []int{0, 1, 8} {
		if got := mustTurned(t, ofNine, 9, at, 0); got != ofNine {
			t.Errorf("nothing turned at %d: %08x", at, got)
		}
	}
}

// P3.3: sizes that no memory holds end quickly, the first and the last place too.
func TestTurnedInVeryMuch(t *testing.T) {
	const most = math.MaxInt
	for _, mask := range []byte{1, 0x80, 0xff} {
		first := mustTurned(t, ofNine, most, 0, mask)
		if want := ofNine ^ mustJoin(t, uint32(mask), 0, most); first != want {
			t.Errorf("the first place, mask %02x: %08x, not %08x", mask, first, want)
		}
		last := mustTurned(t, ofNine, most, most-1, mask)
		if want := ofNine ^ slowByte(uint32(mask)); last != want {
			t.Errorf("the last place, mask %02x: %08x, not %08x", mask, last, want)
		}
	}
}

// P3.3, R2, R3: the size comes ahead of the place, and nothing stands beside an error.
func TestTurnedAtNoPlace(t *testing.T) {
	for _, c := range []struct {
		size, at int
		e        api.Errno
	}{
		{-1, 0, api.ErrArg},
		{-1, -1, api.ErrArg},
		{-1, -2, api.ErrArg},
		{-5, 3, api.ErrArg},
		{math.MinInt, 0, api.ErrArg},
		{math.MinInt, math.MaxInt, api.ErrArg},
		{math.MinInt, math.MinInt, api.ErrArg},
		{0, 0, api.ErrPlace},
		{0, -1, api.ErrPlace},
		{0, 1, api.ErrPlace},
		{1, 1, api.ErrPlace},
		{1, -1, api.ErrPlace},
		{9, 9, api.ErrPlace},
		{9, 10, api.ErrPlace},
		{9, -9, api.ErrPlace},
		{9, math.MaxInt, api.ErrPlace},
		{math.MaxInt, math.MinInt, api.ErrPlace},
		{math.MaxInt, math.MaxInt, api.ErrPlace},
		{math.MaxInt, -1, api.ErrPlace},
	} {
		for _, mask := range []byte{0, 1, 255} {
			if got, e := crc.Turned(ofNine, c.size, c.at, mask); got != 0 || e != c.e {
				t.Errorf("Turned(%08x, %d, %d, %d): %08x, %v, not %v", ofNine, c.size, c.at, mask, got, e, c.e)
			}
		}
	}
}
