package frame_test

import (
	"bytes"
	"math/rand/v2"
	"slices"
	"testing"

	"treadle/api"
	"treadle/frame"
)

// P7.5: there and back.
func TestThereAndBack(t *testing.T) {
	g := rand.New(rand.NewPCG(7, 5))
	for range 5000 {
		f := someFrame(g)
		b, e := frame.Encode(f)
		if e != api.OK {
			t.Fatalf("Encode of %s: %v", show(f), e)
		}
		back, why := frame.Decode(b)
		if show(back) != show(f) || !frame.Same(back, f) || why != (api.Fault{}) {
			t.Fatalf("%s came back as %s, %v", show(f), show(back), why)
		}
		if again, e := frame.Encode(back); !bytes.Equal(again, b) || e != api.OK {
			t.Fatalf("% x came back as % x, %v", b, again, e)
		}
	}
}

// P7.5: where a limit is above 2^31, and there alone, what may be is not read.
func TestFarLimitsThereAndBack(t *testing.T) {
	for _, n := range []int{1<<31 - 1, 1 << 31, 1<<31 + 1, 1 << 32, 1<<62 + 1} {
		for i, l := range []api.Limits{limits(n, 0, 0), limits(0, n, 0), limits(0, 0, n)} {
			f := frame.Request(1, l, "b", "a")
			b, e := frame.Encode(f)
			if e != api.OK {
				t.Errorf("%d: %v", n, e)
			}
			if n <= 1<<31 {
				holdRead(t, b, f)
				continue
			}
			holdRefused(t, b, api.ErrCount, 3+i)
		}
	}
}

// P7.6: no frame's bytes are a beginning of another one's.
func TestNoBeginning(t *testing.T) {
	g := rand.New(rand.NewPCG(7, 6))
	all := [][]byte{}
	for _, f := range golden() {
		b, _ := frame.Encode(f)
		all = append(all, b)
	}
	for range 300 {
		b, _ := frame.Encode(someFrame(g))
		all = append(all, b)
	}
	for _, a := range all {
		for _, b := range all {
			if bytes.HasPrefix(a, b) && !bytes.Equal(a, b) {
				t.Errorf("% x begins with % x", a, b)
			}
		}
	}
}

// P7.6: Need of a frame's bytes, with whatever behind them, is Size; so frames behind one another are told apart.
func TestNeedIsSize(t *testing.T) {
	g := rand.New(rand.NewPCG(7, 7))
	for range 500 {
		f := someFrame(g)
		b, _ := frame.Encode(f)
		size, e := frame.Size(f)
		if size != len(b) || e != api.OK {
			t.Errorf("Size of %s: %d, %v, not %d", show(f), size, e, len(b))
		}
		holdNeed(t, b, size, api.OK)
		holdNeed(t, append(b, someText(g, 300)...), size, api.OK)
	}
	for range 50 {
		l := make([]api.Frame, g.IntN(9))
		for i := range l {
			l[i] = someFrame(g)
		}
		b, _ := frame.All(l...)
		for _, f := range l {
			n, e := frame.Need(b)
			if e != api.OK || n == 0 || n > len(b) {
				t.Fatalf("Need: %d, %v", n, e)
			}
			holdRead(t, b[:n], f)
			b = b[n:]
		}
		if len(b) != 0 {
			t.Errorf("%d bytes are left", len(b))
		}
	}
}

// turned is b with the bits of a pattern turned, from a bit on: counted from the lowest of the first byte on.
func turned(b []byte, from int, pattern uint32) []byte {
	b = slices.Clone(b)
	for i := range 32 {
		if at := from + i; pattern>>i&1 == 1 && at < 8*len(b) {
			b[at/8] ^= 1 << (at % 8)
		}
	}
	return b
}

// P7.7: bits that are turned behind the length, all of them among thirty-two neighbouring ones.
func TestTurned(t *testing.T) {
	g := rand.New(rand.NewPCG(7, 8))
	frames := []api.Frame{frame.Bye(), frame.Cancel(300), frame.Hello(3, tool()), frame.Request(7, limits(1, 2, 3), "tree", "a", "b"), frame.Response(9, 2, ""), frame.Note(string(make([]byte, 130)))}
	for _, f := range frames {
		b, _ := frame.Encode(f)
		_, head, _ := number(b)
		for from := 8 * head; from < 8*len(b); from++ {
			patterns := []uint32{1, 3, 1<<32 - 1}
			for i := range 31 {
				patterns = append(patterns, 1|2<<i, 1|g.Uint32(), 1|g.Uint32())
			}
			for _, p := range patterns {
				holdRefused(t, turned(b, from, p), api.ErrSum, len(b)-4)
			}
		}
	}
}
