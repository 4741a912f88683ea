package duct_test

import (
	"fmt"
	"math/rand/v2"
	"slices"
	"testing"

	"treadle/api"
	"treadle/duct"
)

// slow is a duct that says the chapter's words once more: each byte goes in, comes out and is lost by itself.
type slow struct {
	room  int
	bytes []byte
	shut  bool
	count api.Count
}

func (s *slow) write(parts ...[]byte) (int, api.Errno) {
	if s.shut {
		return 0, api.ErrShut
	}
	n := 0
	for _, b := range slices.Concat(parts...) {
		if len(s.bytes) < s.room {
			s.bytes = append(s.bytes, b)
			s.count.In++
			n++
		}
	}
	return n, api.OK
}

func (s *slow) read(n int) []byte {
	var out []byte
	for len(out) < n && len(s.bytes) > 0 {
		out = append(out, s.bytes[0])
		s.bytes = slices.Clone(s.bytes[1:])
		s.count.Out++
	}
	return out
}

func (s *slow) peek(n int) []byte {
	var out []byte
	for i := 0; i < n && i < len(s.bytes); i++ {
		out = append(out, s.bytes[i])
	}
	return out
}

func (s *slow) turn(at int, mask byte) api.Errno {
	for i, b := range s.bytes {
		if i == at {
			s.bytes[i] = b&^mask | ^b&mask
			if mask != 0 {
				s.count.Turned++
			}
			return api.OK
		}
	}
	return api.ErrPlace
}

func (s *slow) lose(at, n int) (int, api.Errno) {
	if at < 0 || at > len(s.bytes) {
		return 0, api.ErrPlace
	}
	if n < 0 {
		return 0, api.ErrArg
	}
	var left []byte
	lost := 0
	for i, b := range s.bytes {
		if i >= at && lost < n {
			lost++
		} else {
			left = append(left, b)
		}
	}
	s.bytes = left
	s.count.Lost += lost
	return lost, api.OK
}

func (s *slow) close() api.Errno {
	if s.shut {
		return api.ErrShut
	}
	s.shut = true
	return api.OK
}

func (s *slow) free() int {
	if s.shut {
		return 0
	}
	return s.room - len(s.bytes)
}

// show is a value in few letters.
func show(v any) string {
	s := fmt.Sprintf("%+v", v)
	if b, ok := v.([]byte); ok {
		s = fmt.Sprintf("%q", b)
	}
	if len(s) > 300 {
		return s[:300] + ".."
	}
	return s
}

// hold holds what a call answered.
func hold[T comparable](t *testing.T, call string, got, want T) {
	t.Helper()
	if got != want {
		t.Errorf("%s: %v, not %v", call, got, want)
	}
}

func holdBytes(t *testing.T, call string, got, want []byte) {
	t.Helper()
	if !slices.Equal(got, want) {
		t.Errorf("%s: %s, not %s", call, show(got), show(want))
	}
}

// answer is a number and an error, to be held at once.
type answer struct {
	n int
	e api.Errno
}

func both(n int, e api.Errno) answer { return answer{n, e} }

// holdStand holds all that a duct tells of itself against the slow one.
func holdStand(t *testing.T, d *duct.Duct, s *slow) {
	t.Helper()
	hold(t, "Len", d.Len(), len(s.bytes))
	hold(t, "Room", d.Room(), s.free())
	hold(t, "Done", d.Done(), s.shut && len(s.bytes) == 0)
	hold(t, "Count", d.Count(), s.count)
	holdBytes(t, "Peek", d.Peek(len(s.bytes)+1), s.bytes)
}

func newDuct(t *testing.T, room int, parts ...[]byte) (*duct.Duct, *slow) {
	t.Helper()
	d, e := duct.New(room)
	if d == nil || e != api.OK {
		t.Fatalf("New(%d): %v, %v", room, d, e)
	}
	s := &slow{room: room}
	hold(t, "Write", both(d.Write(parts...)), both(s.write(parts...)))
	return d, s
}

func pick[T any](g *rand.Rand, l ...T) T { return l[g.IntN(len(l))] }

func someBytes(g *rand.Rand, n int) []byte {
	b := make([]byte, n)
	for i := range b {
		b[i] = byte(g.Uint32())
	}
	return b
}

// someParts are pieces of which some are empty, and some are none.
func someParts(g *rand.Rand) [][]byte {
	l := make([][]byte, g.IntN(5))
	for i := range l {
		if n := pick(g, -1, 0, 1, 1, 2, g.IntN(10), g.IntN(40)); n >= 0 {
			l[i] = someBytes(g, n)
		}
	}
	return l
}

// somePlace is a place near bytes of that length, mostly one of them.
func somePlace(g *rand.Rand, n int) int {
	return pick(g, 0, n-1, n, g.IntN(n+1), g.IntN(n+1), n+1, -1)
}

// step makes one move of a duct and of the slow one, and holds their answers against each other.
func step(t *testing.T, g *rand.Rand, d *duct.Duct, s *slow) {
	t.Helper()
	switch k := g.IntN(100); {
	case k < 35:
		l := someParts(g)
		hold(t, "Write of "+show(l), both(d.Write(l...)), both(s.write(l...)))
	case k < 60:
		n := pick(g, -1, 0, 1, 2, g.IntN(60), len(s.bytes))
		holdBytes(t, fmt.Sprint("Read ", n), d.Read(n), s.read(n))
	case k < 70:
		n := pick(g, -1, 0, 1, 2, g.IntN(60), len(s.bytes))
		holdBytes(t, fmt.Sprint("Peek ", n), d.Peek(n), s.peek(n))
	case k < 82:
		at, mask := somePlace(g, len(s.bytes)), pick(g, 0, 1, 255, byte(g.Uint32()))
		hold(t, fmt.Sprint("Turn ", at, mask), d.Turn(at, mask), s.turn(at, mask))
	case k < 98:
		at, n := somePlace(g, len(s.bytes)), pick(g, -1, 0, 1, 2, g.IntN(20), 1<<62)
		hold(t, fmt.Sprint("Lose ", at, n), both(d.Lose(at, n)), both(s.lose(at, n)))
	default:
		hold(t, "Shut", d.Shut(), s.close())
	}
}
