package stream_test

import (
	"math"
	"slices"
	"strings"
	"testing"

	"treadle/api"
	"treadle/frame"
	"treadle/stream"
)

func holdFeed(t *testing.T, d *stream.Decoder, want []api.Frame, f api.Fault, parts ...[]byte) {
	t.Helper()
	if l, got := d.Feed(parts...); !sameFrames(l, want) || got != f {
		t.Errorf("Feed of %s: %s, %v, not %s, %v", show(parts), show(l), got, show(want), f)
	}
}

func holdSome(t *testing.T, d *stream.Decoder, n int, b []byte, want []api.Frame, taken int, f api.Fault) {
	t.Helper()
	if l, k, got := d.Some(n, b); !sameFrames(l, want) || k != taken || got != f {
		t.Errorf("Some(%d) of %s: %s, %d, %v, not %s, %d, %v", n, show(b), show(l), k, got, show(want), taken, f)
	}
}

func holdCount(t *testing.T, d *stream.Decoder, bytes, frames int) {
	t.Helper()
	if b, f := d.Count(); b != bytes || f != frames {
		t.Errorf("Count: %d, %d, not %d, %d", b, f, bytes, frames)
	}
}

var none = api.Fault{}

func bye() []api.Frame { return []api.Frame{frame.Bye()} }

// The first example of the chapter.
func TestExampleOfADecoder(t *testing.T) {
	d := newDecoder(t, 9)
	b := byeBytes()
	if !slices.Equal(b, allBytes(t, frame.Bye())) {
		t.Fatalf("Bye's bytes: % x", b)
	}
	holdFeed(t, d, nil, none, b[:5])
	if d.Want() != 1 {
		t.Errorf("Want: %d", d.Want())
	}
	holdFeed(t, d, bye(), none, b[5:])
	holdFeed(t, d, nil, fault(api.ErrForm, 6), []byte{128, 0})
	holdFeed(t, d, nil, fault(api.ErrPoison, 8), []byte("anything"))
	if d.End() != fault(api.ErrForm, 6) {
		t.Errorf("End: %v", d.End())
	}
}

// The second example of the chapter.
func TestExampleOfEdges(t *testing.T) {
	holdFeed(t, newDecoder(t, 1), nil, fault(api.ErrLong, 0), []byte{2})
	if d, e := stream.New(0); d != nil || e != api.ErrArg {
		t.Errorf("New(0): %v, %v", d, e)
	}
	holdSplit(t, nil, nil, nil, none)
	holdSplit(t, []byte{1, 5}, nil, nil, fault(api.ErrShort, 2))
	turned := byeBytes()
	turned[5] ^= 1
	holdSplit(t, append(turned, byeBytes()...), nil, nil, fault(api.ErrSum, 2))
}

// D1: which numbers New takes; beside ErrArg there is no decoder.
func TestNew(t *testing.T) {
	for _, most := range []int{math.MinInt, -1, 0, api.MaxFrame + 1, math.MaxInt} {
		if d, e := stream.New(most); d != nil || e != api.ErrArg {
			t.Errorf("New(%d): %v, %v", most, d, e)
		}
	}
	for _, most := range []int{1, 2, 127, 128, api.MaxFrame - 1, api.MaxFrame} {
		holdStand(t, newDecoder(t, most), &slow{most: most})
	}
}

// D1: what an empty decoder tells.
func TestEmpty(t *testing.T) {
	d := newDecoder(t, 9)
	holdCount(t, d, 0, 0)
	if len(d.Rest()) != 0 || d.Want() != 1 || d.Poison() != none || d.End() != none {
		t.Errorf("an empty decoder: %v, %d, %v, %v", d.Rest(), d.Want(), d.Poison(), d.End())
	}
	holdFeed(t, d, nil, none)
	holdFeed(t, d, nil, none, nil, []byte{}, nil)
	holdSome(t, d, 1, nil, nil, 0, none)
	holdStand(t, d, &slow{most: 9})
}

// D1, D2, D3: a decoder that New did not give, nil or plain.
func TestNotMade(t *testing.T) {
	for _, d := range []*stream.Decoder{nil, {}, new(stream.Decoder)} {
		for range 2 {
			holdFeed(t, d, nil, fault(api.ErrNil, 0), byeBytes())
			holdFeed(t, d, nil, fault(api.ErrNil, 0))
			holdSome(t, d, 1, byeBytes(), nil, 0, fault(api.ErrNil, 0))
			holdSome(t, d, 0, nil, nil, 0, fault(api.ErrNil, 0))
			if d.End() != fault(api.ErrNil, 0) || d.Poison() != none {
				t.Errorf("End, Poison: %v, %v", d.End(), d.Poison())
			}
			holdCount(t, d, 0, 0)
			if len(d.Rest()) != 0 || d.Want() != 0 || d.Clone() != nil {
				t.Errorf("Rest, Want, Clone: %v, %d, %v", d.Rest(), d.Want(), d.Clone())
			}
		}
	}
}

// D2: all parts are taken, one behind the other, and frames go from one into the next.
func TestFeedParts(t *testing.T) {
	l := []api.Frame{frame.Bye(), frame.Cancel(300), frame.Note("a note"), frame.Response(7, 1, "done")}
	b := allBytes(t, l...)
	d := newDecoder(t, api.MaxFrame)
	holdFeed(t, d, l, none, b)
	holdCount(t, d, len(b), 4)
	holdFeed(t, d, l, none, b[:3], nil, b[3:4], []byte{}, b[4:20], b[20:], nil)
	holdCount(t, d, 2*len(b), 8)
	holdFeed(t, d, l[:1], none, b[:8])
	holdFeed(t, d, l[1:3], none, b[8:len(b)-5])
	holdFeed(t, d, nil, none)
	holdFeed(t, d, l[3:], none, b[len(b)-5:])
	holdCount(t, d, 3*len(b), 12)
}

// D2: bytes one by one, by Feeds and by parts.
func TestFeedOneByOne(t *testing.T) {
	l := []api.Frame{frame.Hello(3, api.Digest{1, 2}), frame.Request(9, api.Limits{Fuel: 300}, "tree", "a", ""), frame.Note(strings.Repeat("x", 130)), frame.Bye()}
	b := allBytes(t, l...)
	d, s := newDecoder(t, 200), &slow{most: 200}
	var got []api.Frame
	var parts [][]byte
	for i := range b {
		more, f := d.Feed(b[i : i+1])
		s.take(b[i])
		if f != none {
			t.Fatalf("the byte %d: %v", i, f)
		}
		holdStand(t, d, s)
		got = append(got, more...)
		parts = append(parts, b[i:i+1])
	}
	if !sameFrames(got, l) {
		t.Errorf("one by one: %s", show(got))
	}
	holdFeed(t, newDecoder(t, 200), l, none, parts...)
}

// D1, D2, D3: bytes that are no frame, ahead of all and behind frames; cut anywhere. The bytes behind the fault are not taken.
func TestFaults(t *testing.T) {
	ahead := []api.Frame{frame.Note("ahead"), frame.Cancel(1)}
	for _, w := range wrongs() {
		for n := range 3 {
			first := allBytes(t, ahead[:n]...)
			b := append(slices.Clone(first), w.bytes...)
			b = append(b, byeBytes()...)
			want := fault(w.fault.Why, len(first)+w.fault.At)
			for cut := range b {
				d := newDecoder(t, api.MaxFrame)
				holdFeed(t, d, ahead[:n], want, b[:0], b[:cut], b[cut:])
				holdCount(t, d, len(first)+w.taken, n)
				if d.Poison() != want || d.End() != want || d.Want() != 0 || !slices.Equal(d.Rest(), w.bytes[:w.taken]) {
					t.Errorf("%s: %v, %v, %d, %s", w.name, d.Poison(), d.End(), d.Want(), show(d.Rest()))
				}
			}
			d := newDecoder(t, api.MaxFrame)
			holdSome(t, d, 9, b, ahead[:n], len(first)+w.taken, want)
			holdCount(t, d, len(first)+w.taken, n)
		}
	}
}

// D2: all but the byte that is wrong tells nothing yet.
func TestAheadOfFaults(t *testing.T) {
	for _, w := range wrongs() {
		d := newDecoder(t, api.MaxFrame)
		holdFeed(t, d, nil, none, w.bytes[:w.taken-1])
		holdStand(t, d, slowly(api.MaxFrame, w.bytes[:w.taken-1]))
		holdFeed(t, d, nil, w.fault, w.bytes[w.taken-1:])
	}
}

// D2: behind a fault there is ErrPoison, at how many bytes came: also of no parts, and of no frames that are asked for.
func TestPoisoned(t *testing.T) {
	for _, w := range wrongs() {
		d := newDecoder(t, api.MaxFrame)
		d.Feed(byeBytes(), w.bytes)
		s := slowly(api.MaxFrame, append(byeBytes(), w.bytes...))
		came := 6 + w.taken
		for range 2 {
			holdFeed(t, d, nil, fault(api.ErrPoison, came), byeBytes())
			holdFeed(t, d, nil, fault(api.ErrPoison, came))
			holdFeed(t, d, nil, fault(api.ErrPoison, came), nil, []byte{})
			holdSome(t, d, 1, byeBytes(), nil, 0, fault(api.ErrPoison, came))
			holdSome(t, d, 0, nil, nil, 0, fault(api.ErrPoison, came))
			holdStand(t, d, s)
		}
	}
}

// D2: frames whose bodies have just most bytes are told, and those with one more are refused as soon as their length is whole.
func TestMost(t *testing.T) {
	for _, most := range []int{3, 4, 126, 127, 128, 129, 16383, 16384, 70000} {
		text := strings.Repeat("x", most)
		for len(allBytes(t, frame.Note(text))) > len(sealed(make([]byte, most)...)) {
			text = text[1:]
		}
		just := frame.Note(text)
		if n := bodyOf(allBytes(t, just)); n != most {
			t.Fatalf("a body of %d bytes, not %d", n, most)
		}
		holdFeed(t, newDecoder(t, most), []api.Frame{just}, none, allBytes(t, just))
		b := sealed(make([]byte, most+1)...)
		long := len(b) - most - 5
		d := newDecoder(t, most)
		holdFeed(t, d, []api.Frame{just}, fault(api.ErrLong, len(allBytes(t, just))), allBytes(t, just), b)
		if !slices.Equal(d.Rest(), b[:long]) {
			t.Errorf("Rest with most %d: %s", most, show(d.Rest()))
		}
		holdFeed(t, newDecoder(t, most+1), nil, fault(api.ErrFrame, long), b)
	}
	holdFeed(t, newDecoder(t, 1), bye(), none, byeBytes())
	holdFeed(t, newDecoder(t, 1), bye(), fault(api.ErrLong, 6), byeBytes(), []byte{2, 4, 1})
	holdFeed(t, newDecoder(t, 2), []api.Frame{frame.Bye(), frame.Cancel(1)}, none, byeBytes(), allBytes(t, frame.Cancel(1)))
	holdFeed(t, newDecoder(t, 2), nil, fault(api.ErrLong, 0), allBytes(t, frame.Cancel(300)))
}

// D2: what is told of a length that is above most is layer 7's error, where it has one.
func TestMostBehindNeed(t *testing.T) {
	for _, w := range wrongs() {
		if w.fault.At == 0 {
			holdFeed(t, newDecoder(t, 1), nil, w.fault, w.bytes)
		}
	}
	// Whether it is too long is not known while the length goes on.
	d := newDecoder(t, 1)
	holdFeed(t, d, nil, none, slices.Repeat([]byte{255}, 9))
	holdFeed(t, d, nil, fault(api.ErrLong, 0), []byte{1})
}

// D2: the longest frame of all, at once and byte by byte, and one more byte in its body.
func TestGreatestFrame(t *testing.T) {
	f := frame.Note(strings.Repeat("y", api.MaxFrame-4))
	b := allBytes(t, f)
	if bodyOf(b) != api.MaxFrame {
		t.Fatalf("a body of %d bytes", bodyOf(b))
	}
	holdFeed(t, newDecoder(t, api.MaxFrame), []api.Frame{f, frame.Bye()}, none, b, byeBytes())
	d := newDecoder(t, api.MaxFrame)
	for i := range b[:len(b)-1] {
		if l, why := d.Feed(b[i : i+1]); len(l) != 0 || why != none {
			t.Fatalf("the byte %d: %s, %v", i, show(l), why)
		}
	}
	if d.Want() != 1 || len(d.Rest()) != len(b)-1 {
		t.Errorf("Want %d, and a Rest of %d bytes", d.Want(), len(d.Rest()))
	}
	holdFeed(t, d, []api.Frame{f}, none, b[len(b)-1:])
	holdFeed(t, newDecoder(t, api.MaxFrame-1), nil, fault(api.ErrLong, 0), b)
	holdFeed(t, newDecoder(t, api.MaxFrame), nil, fault(api.ErrLong, 0), []byte{0x81, 0x80, 0x80, 1})
}

// D2: Some takes bytes until so many frames were whole, and not one more.
func TestSome(t *testing.T) {
	l := []api.Frame{frame.Bye(), frame.Cancel(300), frame.Bye(), frame.Note("x")}
	b := allBytes(t, l...)
	ends := []int{0, 6, 14, 20, 28}
	for n, end := range ends {
		for _, long := range []int{end, min(end+1, len(b)), len(b)} {
			d := newDecoder(t, api.MaxFrame)
			holdSome(t, d, n, b[:long], l[:n], end, none)
			holdStand(t, d, slowly(api.MaxFrame, b[:end]))
		}
	}
	for _, n := range []int{5, 100, math.MaxInt} {
		d := newDecoder(t, api.MaxFrame)
		holdSome(t, d, n, b, l, len(b), none)
		d = newDecoder(t, api.MaxFrame)
		holdSome(t, d, n, b[:len(b)-1], l[:3], len(b)-1, none)
		holdStand(t, d, slowly(api.MaxFrame, b[:len(b)-1]))
	}
}

// D2: Some with n below 1 takes nothing, in the midst of a frame neither.
func TestSomeOfNone(t *testing.T) {
	for _, n := range []int{0, -1, math.MinInt} {
		d := newDecoder(t, 9)
		holdSome(t, d, n, byeBytes(), nil, 0, none)
		holdStand(t, d, &slow{most: 9})
		holdSome(t, d, n, []byte{0}, nil, 0, none)
		holdFeed(t, d, nil, none, byeBytes()[:4])
		holdSome(t, d, n, byeBytes()[4:], nil, 0, none)
		holdStand(t, d, slowly(9, byeBytes()[:4]))
		holdSome(t, d, 1, byeBytes()[4:], bye(), 2, none)
	}
}

// D2: a fault behind the last frame that is asked for is not met yet; one ahead of it is.
func TestSomeAndFaults(t *testing.T) {
	b := append(byeBytes(), 128, 0, 7)
	d := newDecoder(t, 9)
	holdSome(t, d, 1, b, bye(), 6, none)
	holdStand(t, d, slowly(9, byeBytes()))
	holdSome(t, d, 1, b[6:], nil, 2, fault(api.ErrForm, 6))
	holdSome(t, d, 1, b[8:], nil, 0, fault(api.ErrPoison, 8))
	d = newDecoder(t, 9)
	holdSome(t, d, 2, b, bye(), 8, fault(api.ErrForm, 6))
	holdStand(t, d, slowly(9, b))
}

// D3: what is told behind each byte, of frames and of what is wrong.
func TestStandBehindEachByte(t *testing.T) {
	inputs := [][]byte{allBytes(t, frame.Bye(), frame.Note(strings.Repeat("n", 300)), frame.Hello(1, api.Digest{}))}
	for _, w := range wrongs() {
		inputs = append(inputs, append(byeBytes(), w.bytes...))
	}
	for _, most := range []int{1, 2, 5, 303, api.MaxFrame} {
		for _, b := range inputs {
			for n := range len(b) + 1 {
				d := newDecoder(t, most)
				d.Feed(b[:n])
				holdStand(t, d, slowly(most, b[:n]))
			}
		}
	}
}

// D3: End and Want in so many words.
func TestEndAndWant(t *testing.T) {
	b := allBytes(t, frame.Bye(), frame.Note(strings.Repeat("n", 300)))
	for _, c := range []struct {
		n, want int
		end     api.Fault
	}{
		{0, 1, none}, {1, 5, fault(api.ErrShort, 1)}, {5, 1, fault(api.ErrShort, 5)}, {6, 1, none},
		{7, 1, fault(api.ErrShort, 7)}, {8, 307, fault(api.ErrShort, 8)}, {9, 306, fault(api.ErrShort, 9)},
		{len(b) - 1, 1, fault(api.ErrShort, len(b)-1)}, {len(b), 1, none},
	} {
		d := newDecoder(t, 1000)
		d.Feed(b[:c.n])
		if d.Want() != c.want || d.End() != c.end || d.End() != c.end || d.Poison() != none {
			t.Errorf("%d bytes: Want %d, End %v, not %d, %v", c.n, d.Want(), d.End(), c.want, c.end)
		}
		// To ask changes nothing.
		l, f := d.Feed(b[c.n:])
		if all := slowly(1000, b); f != none || len(l) != len(all.frames)-len(slowly(1000, b[:c.n]).frames) {
			t.Errorf("%d bytes, and the others: %s, %v", c.n, show(l), f)
		}
	}
}

// D3: a clone stands as its decoder does, and neither turns the other.
func TestClone(t *testing.T) {
	b := allBytes(t, frame.Cancel(9), frame.Note("first"))
	others := allBytes(t, frame.Cancel(9), frame.Note("other"))
	at := len(allBytes(t, frame.Cancel(9)))
	for n := range len(b) {
		d := newDecoder(t, 50)
		d.Feed(b[:n])
		c := d.Clone()
		holdStand(t, c, slowly(50, b[:n]))
		c.Feed([]byte{0}, []byte("and more"))
		holdStand(t, d, slowly(50, b[:n]))
		c = d.Clone()
		d.Feed(b[n:])
		holdStand(t, c, slowly(50, b[:n]))
		if n > at+3 {
			continue
		}
		c.Feed(others[n:])
		holdStand(t, c, slowly(50, others))
		holdStand(t, d, slowly(50, b))
	}
}

// D3: both of a pair go on from a rest with room behind it, turn by turn.
func TestCloneTurnByTurn(t *testing.T) {
	x, y := frame.Note(strings.Repeat("x", 40)), frame.Note(strings.Repeat("y", 40))
	a, b := allBytes(t, x), allBytes(t, y)
	d := newDecoder(t, 50)
	d.Feed(a[:1])
	d.Feed(a[1:3])
	c := d.Clone()
	for i := 3; i < len(a)-1; i++ {
		holdFeed(t, d, nil, none, a[i:i+1])
		holdFeed(t, c, nil, none, b[i:i+1])
	}
	holdFeed(t, d, []api.Frame{x}, none, a[len(a)-1:])
	holdFeed(t, c, []api.Frame{y}, none, b[len(b)-1:])
}

// D3: most and the poison are a clone's, too.
func TestCloneOfPoisoned(t *testing.T) {
	d := newDecoder(t, 1)
	holdFeed(t, d.Clone(), nil, fault(api.ErrLong, 0), []byte{2})
	holdFeed(t, d, nil, fault(api.ErrLong, 0), []byte{2, 4})
	c := d.Clone()
	holdStand(t, c, slowly(1, []byte{2}))
	holdFeed(t, c, nil, fault(api.ErrPoison, 1), byeBytes())
	if c.Clone() == c || c == d {
		t.Error("a clone that is the same decoder")
	}
}

func holdSplit(t *testing.T, b []byte, want []api.Frame, sizes []int, f api.Fault) {
	t.Helper()
	if l, got := stream.Split(b); !sameFrames(l, want) || got != f {
		t.Errorf("Split of %s: %s, %v, not %s, %v", show(b), show(l), got, show(want), f)
	}
	if l, got := stream.Sizes(b); !slices.Equal(l, sizes) || got != f {
		t.Errorf("Sizes of %s: %v, %v, not %v, %v", show(b), l, got, sizes, f)
	}
}

// D4: whole frames, a rest behind them, and what is wrong behind them.
func TestSplit(t *testing.T) {
	l := []api.Frame{frame.Bye(), frame.Cancel(300), frame.Note(strings.Repeat("n", 200)), frame.Cancel(1)}
	sizes := []int{6, 8, 209, 7}
	b := allBytes(t, l...)
	at, k := 0, 0
	for n := range len(b) + 1 {
		if k < len(l) && n == at+sizes[k] {
			at, k = n, k+1
		}
		if n == at {
			holdSplit(t, b[:n], l[:k], sizes[:k], none)
		} else {
			holdSplit(t, b[:n], l[:k], sizes[:k], fault(api.ErrShort, n))
		}
	}
	for _, w := range wrongs() {
		all := append(slices.Clone(b), w.bytes...)
		holdSplit(t, all, l, sizes, fault(w.fault.Why, len(b)+w.fault.At))
		holdSplit(t, all[:len(b)+w.taken], l, sizes, fault(w.fault.Why, len(b)+w.fault.At))
		holdSplit(t, append(all, b...), l, sizes, fault(w.fault.Why, len(b)+w.fault.At))
		if w.taken > 1 {
			n := len(b) + w.taken - 1
			holdSplit(t, all[:n], l, sizes, fault(api.ErrShort, n))
		}
	}
}

// D4: a new decoder with MaxFrame: its longest frame is told.
func TestSplitGreatestFrame(t *testing.T) {
	f := frame.Note(strings.Repeat("z", api.MaxFrame-4))
	b := allBytes(t, f, frame.Bye())
	holdSplit(t, b, []api.Frame{f, frame.Bye()}, []int{api.MaxFrame + 8, 6}, none)
}
