package stream_test

import (
	"bytes"
	"math/rand/v2"
	"slices"
	"testing"

	"treadle/api"
	"treadle/frame"
	"treadle/stream"
)

func someMost(g *rand.Rand) int { return pick(g, 1, 2, 5, 40, 150, 500, api.MaxFrame) }

// feedPieces feeds bytes cut anywhere, a few pieces at a time: all frames, and the first fault.
func feedPieces(g *rand.Rand, d *stream.Decoder, b []byte) ([]api.Frame, api.Fault) {
	var all []api.Frame
	var first api.Fault
	for l := pieces(g, b); len(l) > 0; {
		n := min(len(l), 1+g.IntN(4))
		more, f := d.Feed(l[:n]...)
		all = append(all, more...)
		if first == none {
			first = f
		}
		l = l[n:]
	}
	return all, first
}

// D5: however bytes are cut, it is what they tell when they are taken one by one.
func TestAnyPieces(t *testing.T) {
	g := rand.New(rand.NewPCG(8, 5))
	for range 3000 {
		b, most := someMess(g), someMost(g)
		s := slowly(most, b)
		for range 4 {
			d := newDecoder(t, most)
			l, f := feedPieces(g, d, b)
			if !sameFrames(l, s.frames) || f != s.poison {
				t.Fatalf("most %d, % x: %s, %v, not %s, %v", most, b, show(l), f, show(s.frames), s.poison)
			}
			holdStand(t, d, s)
		}
	}
}

// D5: Some among Feeds is as the words have it.
func TestAnyPiecesBySome(t *testing.T) {
	g := rand.New(rand.NewPCG(8, 15))
	for range 2000 {
		b, most := someMess(g), someMost(g)
		d, s := newDecoder(t, most), &slow{most: most}
		for i := 0; i < 40 && len(b) > 0; i++ {
			piece, n := b[:g.IntN(len(b)+1)], g.IntN(4)
			ahead := len(s.frames)
			if s.poison != none {
				holdSome(t, d, n, piece, nil, 0, fault(api.ErrPoison, len(s.came)))
				break
			}
			taken := s.some(n, piece)
			holdSome(t, d, n, piece, s.frames[ahead:], taken, s.poison)
			holdStand(t, d, s)
			b = b[taken:]
		}
	}
}

// D5: every way to cut a few bytes in two and in three.
func TestEveryCut(t *testing.T) {
	b := append(allBytes(t, frame.Bye(), frame.Cancel(300), frame.Bye()), 4, 3, 1)
	s := slowly(9, b)
	for i := range len(b) + 1 {
		for j := i; j <= len(b); j++ {
			d := newDecoder(t, 9)
			holdFeed(t, d, s.frames, none, b[:i], b[i:j], b[j:])
			holdStand(t, d, s)
		}
	}
}

// D6: frames are split into just these.
func TestFramesComeBack(t *testing.T) {
	g := rand.New(rand.NewPCG(8, 6))
	for range 1000 {
		l := someFrames(g, 6)
		var sizes []int
		for _, f := range l {
			sizes = append(sizes, len(allBytes(t, f)))
		}
		holdSplit(t, allBytes(t, l...), l, sizes, none)
	}
}

// D6: Limits of 2^31 come back; one more is refused at its place.
func TestFarLimits(t *testing.T) {
	most := frame.Request(1, api.Limits{Modules: 1 << 31, Fuel: 1 << 31, Diags: 1 << 31}, "b", "a")
	b := allBytes(t, most)
	holdSplit(t, b, []api.Frame{most}, []int{len(b)}, none)
	for i, l := range []api.Limits{{Modules: 1<<31 + 1}, {Fuel: 1<<31 + 1}, {Diags: 1<<31 + 1}} {
		more := allBytes(t, most, frame.Request(1, l, "b", "a"), most)
		holdSplit(t, more, []api.Frame{most}, []int{len(b)}, fault(api.ErrCount, len(b)+3+i))
	}
}

// D7: the rest has no more bytes than the longest frame with a body of most, but for a length that goes on: no byte ahead of its end tells that it is too long.
func TestRestIsBounded(t *testing.T) {
	g := rand.New(rand.NewPCG(8, 7))
	for range 2000 {
		b, most := someMess(g), someMost(g)
		longest := len(sealed(make([]byte, most)...))
		d := newDecoder(t, most)
		for _, p := range pieces(g, b) {
			d.Feed(p)
			if n := len(d.Rest()); n > max(longest, 10) {
				t.Fatalf("most %d: a rest of %d bytes", most, n)
			}
		}
	}
	for _, most := range []int{1, 5, 6, 127, 128, 300} {
		longest := len(sealed(make([]byte, most)...))
		for _, c := range []byte{0, 1, 2, 5, 127, 128, 200, 255} {
			d := newDecoder(t, most)
			for range 3 * longest {
				d.Feed([]byte{c})
				if n := len(d.Rest()); n > max(longest, 10) {
					t.Fatalf("most %d, bytes %d: a rest of %d bytes", most, c, n)
				}
			}
		}
		// A frame that is just too long is given up with its length.
		d := newDecoder(t, most)
		d.Feed(sealed(make([]byte, most+1)...))
		if n := len(d.Rest()); n > 2 {
			t.Errorf("most %d: a rest of %d bytes", most, n)
		}
	}
}

// D8: what is told as frames encodes to the bytes that came, up to the rest; with the rest, to all that were taken.
func TestNothingIsLetThrough(t *testing.T) {
	g := rand.New(rand.NewPCG(8, 8))
	for range 3000 {
		b, most := someMess(g), someMost(g)
		if g.IntN(4) == 0 {
			b = someBytes(g, g.IntN(40))
		}
		d := newDecoder(t, most)
		l, first := feedPieces(g, d, b)
		encoded := allBytes(t, l...)
		taken, frames := d.Count()
		if frames != len(l) || taken > len(b) || first == none && taken != len(b) {
			t.Fatalf("% x: Count %d, %d of %d bytes, %d frames", b, taken, frames, len(b), len(l))
		}
		if !bytes.Equal(slices.Concat(encoded, d.Rest()), b[:taken]) {
			t.Fatalf("% x: frames %s and the rest %s", b, show(l), show(d.Rest()))
		}
		if first != none && first.At < len(encoded) {
			t.Fatalf("% x: %v, ahead of the end of frames of %d bytes", b, first, len(encoded))
		}
	}
}

// D9: behind a fault no frame is told any more, whatever comes.
func TestBehindAFault(t *testing.T) {
	g := rand.New(rand.NewPCG(8, 9))
	for _, w := range wrongs() {
		d := newDecoder(t, api.MaxFrame)
		d.Feed(byeBytes(), w.bytes)
		s := slowly(api.MaxFrame, append(byeBytes(), w.bytes...))
		for range 30 {
			b := pick(g, byeBytes(), someMess(g), s.rest(), allBytes(t, someFrames(g, 3)...))
			holdFeed(t, d, nil, fault(api.ErrPoison, len(s.came)), pieces(g, b)...)
			holdSome(t, d, 1+g.IntN(3), b, nil, 0, fault(api.ErrPoison, len(s.came)))
			holdStand(t, d, s)
		}
	}
}
