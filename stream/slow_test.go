package stream_test

import (
	"encoding/binary"
	"fmt"
	"hash/crc32"
	"math/rand/v2"
	"slices"
	"testing"

	"treadle/api"
	"treadle/frame"
	"treadle/stream"
)

// slow is a decoder that says the chapter's section Words once more: each byte is taken by itself, and all that came is kept.
type slow struct {
	most   int
	came   []byte
	begin  int // the place of the rest's first byte
	frames []api.Frame
	poison api.Fault
}

func (s *slow) rest() []byte { return s.came[s.begin:] }

// bodyOf is what a whole length at the front of b says.
func bodyOf(b []byte) int {
	n := 0
	for i, x := range b {
		n += int(x%128) << (7 * i)
		if x < 128 {
			break
		}
	}
	return n
}

func (s *slow) take(x byte) {
	s.came = append(s.came, x)
	need, e := frame.Need(s.rest())
	if e == api.OK && need != 0 && bodyOf(s.rest()) > s.most {
		e = api.ErrLong
	}
	if e != api.OK {
		s.poison = api.Fault{Why: e, At: s.begin}
		return
	}
	if need == 0 || len(s.rest()) != need {
		return
	}
	f, fault := frame.Decode(s.rest())
	if fault != (api.Fault{}) {
		s.poison = api.Fault{Why: fault.Why, At: s.begin + fault.At}
		return
	}
	s.frames = append(s.frames, f)
	s.begin = len(s.came)
}

// some takes bytes of b until n more frames are whole: how many it took.
func (s *slow) some(n int, b []byte) int {
	ahead := len(s.frames)
	for i, x := range b {
		if s.poison != (api.Fault{}) || len(s.frames)-ahead >= n {
			return i
		}
		s.take(x)
	}
	return len(b)
}

func slowly(most int, b []byte) *slow {
	s := &slow{most: most}
	s.some(len(b)+1, b)
	return s
}

func (s *slow) want() int {
	if s.poison != (api.Fault{}) {
		return 0
	}
	if need, _ := frame.Need(s.rest()); need != 0 {
		return need - len(s.rest())
	}
	return 1
}

func (s *slow) end() api.Fault {
	if s.poison == (api.Fault{}) && len(s.rest()) > 0 {
		return api.Fault{Why: api.ErrShort, At: len(s.came)}
	}
	return s.poison
}

// show is a value in few letters.
func show(v any) string {
	s := fmt.Sprintf("%+q", fmt.Sprintf("%+v", v))
	if len(s) > 300 {
		return s[:300] + ".."
	}
	return s
}

func sameFrames(a, b []api.Frame) bool { return slices.EqualFunc(a, b, frame.Same) }

// holdStand holds all that a decoder tells of itself against the slow one.
func holdStand(t *testing.T, d *stream.Decoder, s *slow) {
	t.Helper()
	bytes, frames := d.Count()
	if bytes != len(s.came) || frames != len(s.frames) {
		t.Errorf("Count: %d, %d, not %d, %d", bytes, frames, len(s.came), len(s.frames))
	}
	if !slices.Equal(d.Rest(), s.rest()) {
		t.Errorf("Rest: %s, not %s", show(d.Rest()), show(s.rest()))
	}
	if d.Want() != s.want() {
		t.Errorf("Want: %d, not %d", d.Want(), s.want())
	}
	if d.Poison() != s.poison || d.End() != s.end() {
		t.Errorf("Poison, End: %v, %v, not %v, %v", d.Poison(), d.End(), s.poison, s.end())
	}
}

func fault(e api.Errno, at int) api.Fault { return api.Fault{Why: e, At: at} }

func newDecoder(t *testing.T, most int) *stream.Decoder {
	t.Helper()
	d, e := stream.New(most)
	if d == nil || e != api.OK {
		t.Fatalf("New(%d): %v, %v", most, d, e)
	}
	return d
}

func allBytes(t *testing.T, l ...api.Frame) []byte {
	t.Helper()
	b, e := frame.All(l...)
	if e != api.OK {
		t.Fatal(e)
	}
	return b
}

func closed(b []byte) []byte {
	sum := crc32.Checksum(b, crc32.MakeTable(crc32.Castagnoli))
	return binary.LittleEndian.AppendUint32(slices.Clone(b), sum)
}

// sealed is a body with its length ahead and its sum behind, whether or not it is a frame's.
func sealed(body ...byte) []byte {
	return closed(append(binary.AppendUvarint(nil, uint64(len(body))), body...))
}

// byeBytes are Bye's six bytes, as another program made them.
func byeBytes() []byte { return sealed(5) }

func pick[T any](g *rand.Rand, l ...T) T { return l[g.IntN(len(l))] }

func someBytes(g *rand.Rand, n int) []byte {
	b := make([]byte, n)
	for i := range b {
		b[i] = byte(g.Uint32())
	}
	return b
}

func someText(g *rand.Rand) string {
	return string(someBytes(g, pick(g, 0, 1, g.IntN(8), g.IntN(150), g.IntN(400))))
}

func someLimits(g *rand.Rand) api.Limits {
	n := func() int { return pick(g, 0, 1, 127, 128, 1<<20, 1<<31-1, 1<<31, g.IntN(1<<31)) }
	return api.Limits{Modules: n(), Fuel: n(), Diags: n()}
}

// someFrame may be, and is decoded.
func someFrame(g *rand.Rand) api.Frame {
	id := g.Uint64() >> g.IntN(65)
	switch g.IntN(6) {
	case 0:
		return frame.Hello(1+g.IntN(64), api.Digest(someBytes(g, 32)))
	case 1:
		args := make([]string, g.IntN(9))
		for i := range args {
			args[i] = someText(g)
		}
		return frame.Request(id, someLimits(g), someText(g), args...)
	case 2:
		if status := 1 + g.IntN(3); status > 1 {
			return frame.Response(id, status, "")
		}
		return frame.Response(id, 1, someText(g))
	case 3:
		return frame.Cancel(id)
	case 4:
		return frame.Bye()
	}
	return frame.Note(someText(g))
}

func someFrames(g *rand.Rand, most int) []api.Frame {
	l := make([]api.Frame, g.IntN(most+1))
	for i := range l {
		l[i] = someFrame(g)
	}
	return l
}

// wrong is bytes with which a decoder that takes MaxFrame meets a fault; its place is counted from their first byte on.
type wrong struct {
	name  string
	bytes []byte
	taken int // those that are taken till then
	fault api.Fault
}

// wrongs are bytes that are no frame, each for another reason; behind some of them stands what is not looked at.
func wrongs() []wrong {
	turned := byeBytes()
	turned[5] ^= 1
	body := byeBytes()
	body[1] = 4
	wide := slices.Repeat([]byte{255}, 12)
	l := []wrong{
		{"no body", []byte{0}, 1, fault(api.ErrFrame, 0)},
		{"no body, and a sum", sealed(), 1, fault(api.ErrFrame, 0)},
		{"a length in another form", []byte{128, 0}, 2, fault(api.ErrForm, 0)},
		{"a length in another form, and a frame of it", closed([]byte{129, 0, 5}), 2, fault(api.ErrForm, 0)},
		{"a long length in another form", append(slices.Repeat([]byte{255}, 9), 0), 10, fault(api.ErrForm, 0)},
		{"a length that is too wide", wide, 10, fault(api.ErrWide, 0)},
		{"a length above MaxFrame", []byte{0x81, 0x80, 0x80, 1, 7, 7}, 4, fault(api.ErrLong, 0)},
		{"the greatest length", append(slices.Repeat([]byte{255}, 9), 1, 9), 10, fault(api.ErrLong, 0)},
		{"a sum that is turned", turned, 6, fault(api.ErrSum, 2)},
		{"a body that is turned", body, 6, fault(api.ErrSum, 2)},
		{"a kind of 0", sealed(0), 6, fault(api.ErrFrame, 1)},
		{"a kind of 7", sealed(7), 6, fault(api.ErrCount, 1)},
		{"a kind in another form", sealed(133, 0), 7, fault(api.ErrForm, 1)},
		{"a Bye with more", sealed(5, 0), 7, fault(api.ErrMore, 2)},
		{"a Cancel without its id", sealed(4), 6, fault(api.ErrShort, 2)},
		{"a Note that is cut short", sealed(6, 9, 'a'), 8, fault(api.ErrShort, 2)},
		{"a status with a body", sealed(3, 1, 2, 1, 'x'), 10, fault(api.ErrFrame, 1)},
		{"a long body that is refused", sealed(slices.Repeat([]byte{7}, 200)...), 206, fault(api.ErrCount, 2)},
	}
	return l
}

// someMess is frames with something wrong among them, mostly.
func someMess(g *rand.Rand) []byte {
	b, _ := frame.All(someFrames(g, 5)...)
	for range g.IntN(3) {
		at := g.IntN(len(b) + 1)
		switch g.IntN(5) {
		case 0:
			b = slices.Insert(b, at, someBytes(g, 1+g.IntN(4))...)
		case 1:
			b = slices.Delete(b, at, min(len(b), at+g.IntN(4)))
		case 2:
			if at < len(b) {
				b[at] ^= 1 << g.IntN(8)
			}
		case 3:
			b = append(b, pick(g, wrongs()...).bytes...)
		case 4:
			b = b[:at]
		}
	}
	more, _ := frame.All(someFrames(g, 3)...)
	return append(b, more...)
}

// pieces cuts bytes anywhere: some pieces are empty.
func pieces(g *rand.Rand, b []byte) [][]byte {
	var l [][]byte
	for len(b) > 0 {
		n := min(len(b), pick(g, 0, 1, 1, 2, g.IntN(10), g.IntN(400)))
		l = append(l, b[:n])
		b = b[n:]
	}
	return l
}
