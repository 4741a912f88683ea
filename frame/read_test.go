package frame_test

import (
	"bytes"
	"math/rand/v2"
	"slices"
	"strings"
	"testing"

	"treadle/api"
	"treadle/frame"
)

func holdNeed(t *testing.T, b []byte, n int, e api.Errno) {
	t.Helper()
	if got, f := frame.Need(b); got != n || f != e {
		t.Errorf("Need of %s: %d, %v, not %d, %v", show(b), got, f, n, e)
	}
}

func holdRefused(t *testing.T, b []byte, e api.Errno, at int) {
	t.Helper()
	if f, why := frame.Decode(b); show(f) != show(api.Frame{}) || why != (api.Fault{Why: e, At: at}) {
		t.Errorf("Decode of %s: %s, %v, not {%v, %d}", show(b), show(f), why, e, at)
	}
}

func holdRead(t *testing.T, b []byte, want api.Frame) {
	t.Helper()
	if f, why := frame.Decode(b); !frame.Same(f, want) || why != (api.Fault{}) {
		t.Errorf("Decode of %s: %s, %v, not %s", show(b), show(f), why, show(want))
	}
}

// P7.2: the examples of the chapter, and the edges of the length.
func TestNeed(t *testing.T) {
	holdNeed(t, nil, 0, api.OK)
	holdNeed(t, []byte{}, 0, api.OK)
	holdNeed(t, []byte{128}, 0, api.OK)
	holdNeed(t, []byte{1}, 6, api.OK)
	holdNeed(t, []byte{0}, 0, api.ErrFrame)
	holdNeed(t, []byte{128, 0}, 0, api.ErrForm)
	holdNeed(t, []byte{127}, 132, api.OK)
	holdNeed(t, []byte{128, 1}, 134, api.OK)
	holdNeed(t, []byte{0x80, 0x80, 0x80, 1}, 1<<21+8, api.OK)
	holdNeed(t, []byte{0x81, 0x80, 0x80, 1}, 0, api.ErrLong)
	holdNeed(t, []byte{0xff, 0xff, 0x7f}, 1<<21-1+7, api.OK)
	holdNeed(t, []byte{0xff, 0xff, 0xff, 0x7f}, 0, api.ErrLong)
}

// P7.2: a length that is not yet whole asks for more, however great it may become.
func TestNeedNotYetWhole(t *testing.T) {
	for n := range 10 {
		holdNeed(t, slices.Repeat([]byte{128}, n), 0, api.OK)
		holdNeed(t, slices.Repeat([]byte{255}, n), 0, api.OK)
	}
	nine := slices.Repeat([]byte{255}, 9)
	holdNeed(t, append(nine[:9:9], 1), 0, api.ErrLong)
	holdNeed(t, append(nine[:9:9], 2), 0, api.ErrWide)
	holdNeed(t, append(nine[:9:9], 128), 0, api.ErrWide)
	holdNeed(t, append(nine[:9:9], 255, 0, 0), 0, api.ErrWide)
	holdNeed(t, append(nine[:9:9], 0), 0, api.ErrForm)
	holdNeed(t, append(nine[:8:8], 0), 0, api.ErrForm)
	holdNeed(t, append(slices.Repeat([]byte{128}, 9), 1), 0, api.ErrLong)
}

// P7.2: what stands behind the number is not looked at.
func TestNeedBehind(t *testing.T) {
	for _, c := range []byte{0, 1, 5, 127, 128, 255} {
		tail := slices.Repeat([]byte{c}, 20)
		holdNeed(t, append([]byte{1}, tail...), 6, api.OK)
		holdNeed(t, append([]byte{0}, tail...), 0, api.ErrFrame)
		holdNeed(t, append([]byte{128, 0}, tail...), 0, api.ErrForm)
		holdNeed(t, append([]byte{0xac, 2}, tail...), 306, api.OK)
		holdNeed(t, append([]byte{0xff, 0xff, 0xff, 0x7f}, tail...), 0, api.ErrLong)
	}
}

// P7.2: all short bytes of those at which something turns.
func TestNeedOfAllSorts(t *testing.T) {
	var grow func(b []byte)
	grow = func(b []byte) {
		n, e := slowNeed(b)
		holdNeed(t, b, n, e)
		if len(b) < 5 {
			for _, c := range []byte{0, 1, 2, 127, 128, 129, 255} {
				grow(append(b, c))
			}
		}
	}
	grow(make([]byte, 0, 5))
}

// P7.3: the examples of the chapter.
func TestDecodeExamples(t *testing.T) {
	bye := sealed(5)
	holdRead(t, bye, frame.Bye())
	holdRefused(t, []byte{1, 5}, api.ErrShort, 2)
	holdRefused(t, append(bye[:6:6], 0), api.ErrMore, 6)
	turned := slices.Clone(bye)
	turned[5] ^= 1
	holdRefused(t, turned, api.ErrSum, 2)
	holdRefused(t, sealed(0), api.ErrFrame, 1)
	holdRefused(t, sealed(7), api.ErrCount, 1)
	holdRefused(t, sealed(5, 0), api.ErrMore, 2)
}

// P7.3: what is told of the length: as long as it is not whole, ErrShort behind the last byte; its own errors at byte 0.
func TestDecodeLength(t *testing.T) {
	holdRefused(t, nil, api.ErrShort, 0)
	holdRefused(t, []byte{128}, api.ErrShort, 1)
	holdRefused(t, slices.Repeat([]byte{255}, 9), api.ErrShort, 9)
	holdRefused(t, slices.Repeat([]byte{255}, 10), api.ErrWide, 0)
	holdRefused(t, []byte{128, 0}, api.ErrForm, 0)
	holdRefused(t, []byte{0}, api.ErrFrame, 0)
	holdRefused(t, sealed(), api.ErrFrame, 0)
	holdRefused(t, []byte{0x81, 0x80, 0x80, 1}, api.ErrLong, 0)
	holdRefused(t, []byte{0x80, 0x80, 0x80, 1}, api.ErrShort, 4)
	// A length in another form, with a sum that is right.
	wide := []byte{129, 0, 5}
	holdRefused(t, append(wide, slowSum(wide)...), api.ErrForm, 0)
}

// P7.3: a frame of each kind, cut short anywhere, and with bytes behind.
func TestDecodeCutAndMore(t *testing.T) {
	for s := range golden() {
		b := unhex(t, s)
		for n := range b {
			holdRefused(t, b[:n], api.ErrShort, n)
		}
		holdRefused(t, append(slices.Clone(b), 0), api.ErrMore, len(b))
		holdRefused(t, append(slices.Clone(b), b...), api.ErrMore, len(b))
	}
}

// P7.3: the sum ahead of all that is wrong in the body.
func TestDecodeSumAheadOfBody(t *testing.T) {
	for _, body := range [][]byte{{0}, {7}, {5, 0}, {4}, {4, 128, 0}, {3, 1, 2, 1, 'x'}, {1, 2}, {6, 200}} {
		b := sealed(body...)
		b[len(b)-1] ^= 128
		holdRefused(t, b, api.ErrSum, len(b)-4)
		holdRefused(t, append(b, 0), api.ErrMore, len(b))
		holdRefused(t, b[:len(b)-1], api.ErrShort, len(b)-1)
	}
	// A sum with the highest byte ahead.
	b := sealed(4, 7)
	slices.Reverse(b[len(b)-4:])
	holdRefused(t, b, api.ErrSum, 3)
	// A sum of the body without its length.
	b = append([]byte{2, 4, 7}, slowSum([]byte{4, 7})...)
	holdRefused(t, b, api.ErrSum, 3)
}

// P7.3: what is wrong with a Kind, at its place.
func TestDecodeKind(t *testing.T) {
	holdRefused(t, sealed(0, 0, 0), api.ErrFrame, 1)
	holdRefused(t, sealed(8), api.ErrCount, 1)
	holdRefused(t, sealed(128), api.ErrShort, 1)
	holdRefused(t, sealed(133, 0), api.ErrForm, 1)
	holdRefused(t, sealed(133, 2), api.ErrCount, 1)
	holdRefused(t, sealed(slices.Repeat([]byte{255}, 10)...), api.ErrWide, 1)
	// A length of two bytes, and the places with it.
	holdRefused(t, sealed(make([]byte, 200)...), api.ErrFrame, 2)
	holdRefused(t, sealed(slices.Repeat([]byte{7}, 200)...), api.ErrCount, 2)
}

// P7.3: what is wrong with a Hello.
func TestDecodeHello(t *testing.T) {
	d := tool()
	hello := func(ahead ...byte) []byte { return sealed(append(ahead, d[:]...)...) }
	holdRead(t, hello(1, 1, 1), frame.Hello(1, d))
	holdRead(t, hello(1, 1, 64), frame.Hello(64, d))
	holdRefused(t, hello(1, 0, 1), api.ErrFrame, 2)
	holdRefused(t, hello(1, 2, 1), api.ErrCount, 2)
	holdRefused(t, hello(1, 129, 0), api.ErrForm, 2)
	holdRefused(t, hello(1, 1, 0), api.ErrFrame, 3)
	holdRefused(t, hello(1, 1, 65), api.ErrCount, 3)
	holdRefused(t, hello(1, 1, 1, 9), api.ErrMore, 36)
	holdRefused(t, sealed(1), api.ErrShort, 2)
	holdRefused(t, sealed(1, 1), api.ErrShort, 3)
	holdRefused(t, sealed(1, 1, 1), api.ErrShort, 4)
	holdRefused(t, sealed(append([]byte{1, 1, 1}, d[:31]...)...), api.ErrShort, 4)
	// The first fault of several.
	holdRefused(t, hello(1, 0, 0), api.ErrFrame, 2)
	holdRefused(t, hello(1, 0, 65), api.ErrFrame, 2)
	holdRefused(t, hello(1, 2, 0), api.ErrCount, 2)
	holdRefused(t, sealed(1, 1, 0), api.ErrFrame, 3)
	holdRefused(t, sealed(1, 0), api.ErrFrame, 2)
}

// P7.3: what is wrong with a Request; Limits of 2^31 are read, one more is refused.
func TestDecodeRequest(t *testing.T) {
	most, more := slowNumber(1<<31), slowNumber(1<<31+1)
	holdRead(t, sealed(joined([]byte{2, 9}, most, most, most, []byte{0, 0})...), frame.Request(9, limits(1<<31, 1<<31, 1<<31), ""))
	holdRefused(t, sealed(joined([]byte{2, 9}, more, more, more, []byte{0, 0})...), api.ErrCount, 3)
	holdRefused(t, sealed(joined([]byte{2, 9, 0}, more, []byte{0, 0, 0})...), api.ErrCount, 4)
	holdRefused(t, sealed(joined([]byte{2, 9, 0, 0}, more, []byte{0, 0})...), api.ErrCount, 5)
	holdRefused(t, unhex(t, farLimits), api.ErrCount, 3)
	holdRead(t, sealed(2, 9, 1, 2, 3, 2, 1, 'a', 0, 3, 'x', 'y', 'z'), frame.Request(9, limits(1, 2, 3), "xyz", "a", ""))
	holdRefused(t, sealed(2, 9, 1, 2, 3, 9, 0, 0, 0, 0, 0, 0, 0, 0, 0, 0), api.ErrCount, 6)
	holdRefused(t, sealed(2, 9, 1, 2, 3, 2, 1, 'a', 9, 'b'), api.ErrShort, 9)
	holdRefused(t, sealed(2, 9, 1, 2, 3, 0, 2, 'a'), api.ErrShort, 7)
	holdRefused(t, sealed(2, 9, 1, 2, 3, 0), api.ErrShort, 7)
	holdRefused(t, sealed(2, 9, 1, 2, 3, 0, 1, 'a', 'b'), api.ErrMore, 9)
	holdRefused(t, sealed(2, 9, 1, 2, 3, 0, 129, 0, 'a'), api.ErrForm, 7)
	holdRefused(t, sealed(2), api.ErrShort, 2)
	holdRefused(t, sealed(append([]byte{2}, slices.Repeat([]byte{255}, 10)...)...), api.ErrWide, 2)
}

// P7.3: the bounds of Args and Body in bytes.
func TestDecodeBounds(t *testing.T) {
	long := strings.Repeat("x", 4096)
	eight := slices.Repeat([]string{long}, 8)
	head := []byte{2, 9, 1, 2, 3}
	holdRead(t, sealed(joined(head, slowList(eight), []byte{0})...), frame.Request(9, limits(1, 2, 3), "", eight...))
	b := sealed(joined(head, slowList(append(eight[:2:2], long+"x")), []byte{0})...)
	holdRefused(t, b, api.ErrLong, 2+5+1+2*4098)
	b = sealed(joined(head, slowList(append(eight[:8:8], "")), []byte{0})...)
	holdRefused(t, b, api.ErrCount, 3+5)
	holdRefused(t, sealed(joined(head, []byte{0}, slowNumber(1<<21+1))...), api.ErrLong, 7)
	holdRefused(t, sealed(joined(head, []byte{0}, slowNumber(1<<21))...), api.ErrShort, 7)
	holdRefused(t, sealed(append([]byte{6}, slowNumber(1<<21+1)...)...), api.ErrLong, 2)
	holdRefused(t, sealed(append([]byte{6}, slowNumber(1<<21)...)...), api.ErrShort, 2)
	holdRefused(t, sealed(append([]byte{3, 1, 1}, slowNumber(1<<21+1)...)...), api.ErrLong, 4)
}

// P7.3: what is wrong with a Response; a Body beside another Status than StatusDone is told last of all.
func TestDecodeResponse(t *testing.T) {
	holdRead(t, sealed(3, 9, 1, 1, 'x'), frame.Response(9, api.StatusDone, "x"))
	holdRead(t, sealed(3, 9, 2, 0), frame.Response(9, api.StatusStopped, ""))
	holdRead(t, sealed(3, 9, 3, 0), frame.Response(9, api.StatusRefused, ""))
	holdRefused(t, sealed(3, 9, 2, 1, 'x'), api.ErrFrame, 1)
	holdRefused(t, sealed(3, 9, 3, 1, 'x'), api.ErrFrame, 1)
	holdRefused(t, sealed(append([]byte{3, 9, 3, 172, 2}, make([]byte, 300)...)...), api.ErrFrame, 2)
	holdRefused(t, sealed(3, 9, 2, 1, 'x', 'y'), api.ErrMore, 6)
	holdRefused(t, sealed(3, 9, 2, 2, 'x'), api.ErrShort, 4)
	holdRefused(t, sealed(3, 9, 0, 1, 'x'), api.ErrFrame, 3)
	holdRefused(t, sealed(3, 9, 4, 1, 'x'), api.ErrCount, 3)
	holdRefused(t, sealed(3, 9, 0, 1, 'x', 'y'), api.ErrFrame, 3)
	holdRefused(t, sealed(3, 9, 0), api.ErrFrame, 3)
	holdRefused(t, sealed(3, 9), api.ErrShort, 3)
	holdRefused(t, sealed(3, 137, 0, 2, 1, 'x'), api.ErrForm, 2)
}

// P7.3: the short kinds.
func TestDecodeShortKinds(t *testing.T) {
	holdRead(t, sealed(4, 0), frame.Cancel(0))
	holdRefused(t, sealed(4), api.ErrShort, 2)
	holdRefused(t, sealed(4, 1, 1), api.ErrMore, 3)
	holdRefused(t, sealed(4, 128, 0), api.ErrForm, 2)
	holdRead(t, sealed(6, 0), frame.Note(""))
	holdRefused(t, sealed(6), api.ErrShort, 2)
	holdRefused(t, sealed(6, 0, 0), api.ErrMore, 3)
	holdRefused(t, sealed(6, 2, 'a'), api.ErrShort, 2)
}

// someBody is a body that is often right, and often wrong in one place or more.
func someBody(g *rand.Rand) []byte {
	b := slowBody(someFrame(g))
	for range g.IntN(4) {
		i := min(g.IntN(len(b)), g.IntN(50))
		switch g.IntN(6) {
		case 0:
			b = b[:i+1]
		case 1:
			b = append(b, byte(g.Uint32()))
		case 2:
			b[i] = byte(g.Uint32())
		case 3:
			b[i] = pick[byte](g, 0, 1, 2, 3, 4, 9, 65, 127, 128, 255)
		case 4:
			b = slices.Insert(b, i, pick[byte](g, 0, 1, 128, 255))
		case 5:
			b = slices.Insert(b, i, slowNumber(someId(g))...)
		}
	}
	return b
}

// P7.3, R2, R3: bytes of all sorts, against the chapter's own words; what is read is encoded as the bytes (P7.5).
func TestDecodeOfAllSorts(t *testing.T) {
	g := rand.New(rand.NewPCG(7, 3))
	met := map[api.Errno]int{}
	for range 30000 {
		b := sealed(someBody(g)...)
		if g.IntN(20) == 0 {
			b[g.IntN(len(b))] ^= 1 << g.IntN(8)
		}
		want, why := slowDecode(b)
		met[why.Why]++
		got, f := frame.Decode(b)
		if !frame.Same(got, want) || f != why {
			t.Fatalf("Decode of %s: %s, %v, not %s, %v", show(b), show(got), f, show(want), why)
		}
		if again, e := frame.Encode(got); why.Why == api.OK && (!bytes.Equal(again, b) || e != api.OK) {
			t.Fatalf("Encode of %s: %s, %v, not %s", show(got), show(again), e, show(b))
		}
	}
	for _, e := range []api.Errno{api.OK, api.ErrLong, api.ErrShort, api.ErrForm, api.ErrMore, api.ErrWide, api.ErrCount, api.ErrFrame, api.ErrSum} {
		if met[e] < 20 {
			t.Errorf("too few of some sorts: %v", met)
		}
	}
}
