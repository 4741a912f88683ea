package stream_test

import (
	"bytes"
	"slices"
	"strings"
	"testing"
	"unsafe"

	"treadle/api"
	"treadle/frame"
	"treadle/stream"
)

// roomy is a copy with spare room behind its end, which is filled, too.
func roomy(b []byte) []byte {
	out := append(slices.Clone(b), 7, 7, 7, 7, 7, 7)
	return out[:len(b)]
}

func whole(b []byte) []byte { return b[:cap(b)] }

// span is where a piece of memory lies, its spare room with it.
type span struct {
	from, to uintptr
	// What nobody holds any more could make place for another answer.
	held unsafe.Pointer
}

func spanOf(s string) span {
	at := unsafe.Pointer(unsafe.StringData(s))
	return span{uintptr(at), uintptr(at) + uintptr(len(s)), at}
}

func spanOfList[T any](l []T) span {
	at := unsafe.Pointer(unsafe.SliceData(l))
	var one T
	return span{uintptr(at), uintptr(at) + uintptr(cap(l))*unsafe.Sizeof(one), at}
}

func (a span) meets(b span) bool { return a.from < b.to && b.from < a.to }

func framesSpans(l []api.Frame) []span {
	out := []span{spanOfList(l)}
	for _, f := range l {
		out = append(out, spanOfList(f.Args), spanOf(f.Body))
		for _, s := range f.Args {
			out = append(out, spanOf(s))
		}
	}
	return out
}

// holdApart holds that no two pieces of memory meet.
func holdApart(t *testing.T, name string, l []span) {
	t.Helper()
	for i, a := range l {
		if slices.ContainsFunc(l[i+1:], a.meets) {
			t.Errorf("%s: memory that is shared", name)
		}
	}
}

// ownFrames have texts of more than one byte alone: of these the language keeps no table of its own.
func ownFrames() []api.Frame {
	r := frame.Request(7, api.Limits{Modules: 1, Fuel: 2, Diags: 3}, "some body", "first", "second", "third")
	return []api.Frame{r, frame.Note("some text"), r, frame.Response(7, 1, "payload"), frame.Bye()}
}

// telling are the calls that tell frames of bytes.
func telling() map[string]func(b []byte) []api.Frame {
	return map[string]func(b []byte) []api.Frame{
		"Feed": func(b []byte) []api.Frame {
			d, _ := stream.New(100)
			l, _ := d.Feed(b)
			return l
		},
		"Feed of parts": func(b []byte) []api.Frame {
			d, _ := stream.New(100)
			l, _ := d.Feed(b[:20], b[20:21], b[21:])
			return l
		},
		"Some": func(b []byte) []api.Frame {
			d, _ := stream.New(100)
			l, _, _ := d.Some(5, b)
			return l
		},
		"Split": func(b []byte) []api.Frame {
			l, _ := stream.Split(b)
			return l
		},
	}
}

// R4: what is handed in is not changed, its spare room neither; the frames are new memory, each list and text of them.
func TestFramesAreNewMemory(t *testing.T) {
	want := allBytes(t, ownFrames()...)
	for name, call := range telling() {
		b := roomy(want)
		before := slices.Clone(whole(b))
		first, second := call(b), call(b)
		if !bytes.Equal(whole(b), before) {
			t.Errorf("%s changed what it was handed", name)
		}
		spans := append(framesSpans(first), framesSpans(second)...)
		holdApart(t, name, append(spans, spanOfList(b)))
		clear(whole(b))
		if !sameFrames(first, ownFrames()) {
			t.Errorf("%s: an answer was turned with what was handed in", name)
		}
		for i := range first[:cap(first)] {
			clear(first[:cap(first)][i].Args)
			first[:cap(first)][i] = api.Frame{}
		}
		if !sameFrames(second, ownFrames()) {
			t.Errorf("%s: an answer was turned with another one", name)
		}
	}
}

// R4: Sizes, likewise.
func TestSizesAreNewMemory(t *testing.T) {
	b := roomy(allBytes(t, ownFrames()...))
	before := slices.Clone(whole(b))
	first, _ := stream.Sizes(b)
	second, _ := stream.Sizes(b)
	if !bytes.Equal(whole(b), before) {
		t.Error("Sizes changed what it was handed")
	}
	holdApart(t, "Sizes", []span{spanOfList(first), spanOfList(second), spanOfList(b)})
}

// R4: parts that are turned behind the call do not turn the rest, and their spare room is left as it was.
func TestPartsAreNotKept(t *testing.T) {
	f := frame.Note(strings.Repeat("text", 20))
	b := allBytes(t, f)
	d := newDecoder(t, 100)
	for i := 0; i < len(b)-10; i += 10 {
		p, q := roomy(b[i:i+4]), roomy(b[i+4:i+10])
		beforeP, beforeQ := slices.Clone(whole(p)), slices.Clone(whole(q))
		var l []api.Frame
		if i%20 == 0 {
			l, _ = d.Feed(p, q)
		} else {
			d.Some(9, p)
			l, _, _ = d.Some(9, q)
		}
		if len(l) != 0 || !bytes.Equal(whole(p), beforeP) || !bytes.Equal(whole(q), beforeQ) {
			t.Error("a part was changed")
		}
		clear(whole(p))
		clear(whole(q))
		if !bytes.Equal(d.Rest(), b[:i+10]) {
			t.Fatalf("a part was kept: %s", show(d.Rest()))
		}
	}
	bytes, _ := d.Count()
	holdFeed(t, d, []api.Frame{f}, none, b[bytes:])
}

// R4: the list of parts is left as it was.
func TestListOfParts(t *testing.T) {
	b := byeBytes()
	parts := make([][]byte, 2, 4)
	parts[0], parts[1], parts[:3][2] = b[:2], b[2:], []byte{1}
	d := newDecoder(t, 9)
	holdFeed(t, d, bye(), none, parts...)
	if &parts[0][0] != &b[0] || &parts[1][0] != &b[2] || !bytes.Equal(parts[:3][2], []byte{1}) || parts[:4][3] != nil {
		t.Error("the list of parts was changed")
	}
}

// R4: Rest is new memory: of an open decoder, of a poisoned one and of a clone.
func TestRestIsNewMemory(t *testing.T) {
	for _, w := range wrongs() {
		for _, n := range []int{w.taken - 1, w.taken} {
			d := newDecoder(t, api.MaxFrame)
			for i := range n {
				d.Feed(w.bytes[i : i+1])
			}
			c := d.Clone()
			rests := [][]byte{d.Rest(), d.Rest(), c.Rest(), c.Rest()}
			var spans []span
			for _, r := range rests {
				spans = append(spans, spanOfList(r))
			}
			holdApart(t, w.name, append(spans, spanOfList(w.bytes)))
			for _, r := range rests {
				for i := range whole(r) {
					whole(r)[i] = 99
				}
			}
			holdStand(t, d, slowly(api.MaxFrame, w.bytes[:n]))
			holdStand(t, c, slowly(api.MaxFrame, w.bytes[:n]))
			d.Feed(w.bytes[n:])
			holdStand(t, d, slowly(api.MaxFrame, w.bytes))
			if len(rests[0]) > 0 && rests[0][0] != 99 {
				t.Errorf("%s: an answer was turned by a later call", w.name)
			}
		}
	}
}

// R5: two decoders know nothing of one another, nor of what others were told.
func TestDecodersApart(t *testing.T) {
	b := allBytes(t, ownFrames()...)
	alone := slowly(100, b)
	for _, w := range wrongs() {
		d, other := newDecoder(t, 100), newDecoder(t, 100)
		var all []api.Frame
		for i := range b {
			l, _ := d.Feed(b[i : i+1])
			all = append(all, l...)
			if i < len(w.bytes) {
				other.Feed(w.bytes[i : i+1])
			}
		}
		if !sameFrames(all, alone.frames) {
			t.Errorf("%s: %s", w.name, show(all))
		}
		holdStand(t, d, alone)
		holdStand(t, other, slowly(100, w.bytes))
	}
}
