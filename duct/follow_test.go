package duct_test

import (
	"bytes"
	"math/rand/v2"
	"testing"

	"treadle/api"
	"treadle/duct"
)

func someRoom(g *rand.Rand) int { return pick(g, 1, 2, 3, 10, 50, 300, 1+g.IntN(100), api.MaxRoom) }

// P9.1 to P9.4: whatever is done with a duct, it answers what the words say. P9.6: In is Out, Lost and Len together. P9.8: Len is never above the room.
func TestAnySteps(t *testing.T) {
	g := rand.New(rand.NewPCG(9, 2))
	for range 1500 {
		room := someRoom(g)
		d, s := newDuct(t, room)
		for range 1 + g.IntN(150) {
			step(t, g, d, s)
			holdStand(t, d, s)
			c := d.Count()
			if c.In != c.Out+c.Lost+d.Len() || d.Len() > room {
				t.Fatalf("room %d: %+v, and %d bytes", room, c, d.Len())
			}
			if t.Failed() {
				return
			}
		}
	}
}

// P9.6: what is read, all together, is a beginning of what went in; what is in it is the rest.
func TestInItsOrder(t *testing.T) {
	g := rand.New(rand.NewPCG(9, 6))
	for range 1000 {
		d, _ := newDuct(t, someRoom(g))
		var in, out []byte
		for range 1 + g.IntN(60) {
			l := someParts(g)
			n, _ := d.Write(l...)
			in = append(in, bytes.Join(l, nil)[:n]...)
			out = append(out, d.Read(pick(g, -1, 0, 1, g.IntN(20), g.IntN(100)))...)
			d.Turn(g.IntN(5), 0)
			d.Lose(0, 0)
			if !bytes.Equal(append(bytes.Clone(out), d.Peek(len(in)+1)...), in) || len(out)+d.Len() != len(in) {
				t.Fatalf("%s, then %s, of %s", show(out), show(d.Peek(len(in))), show(in))
			}
		}
		d.Shut()
		if out = append(out, d.Read(len(in))...); !bytes.Equal(out, in) || !d.Done() {
			t.Fatalf("%s of %s", show(out), show(in))
		}
	}
}

// P9.7: Turn twice by one mask leaves the bytes as they were.
func TestTurnTwice(t *testing.T) {
	g := rand.New(rand.NewPCG(9, 7))
	for range 1000 {
		d, s := newDuct(t, someRoom(g))
		for range g.IntN(40) {
			step(t, g, d, s)
		}
		before := d.Peek(d.Len())
		at, mask := somePlace(g, len(before)), byte(g.Uint32())
		first, second := d.Turn(at, mask), d.Turn(at, mask)
		if first != second || !bytes.Equal(d.Peek(len(before)+1), before) {
			t.Fatalf("Turn of %s at %d by %d: %v, %v, %s", show(before), at, mask, first, second, show(d.Peek(len(before))))
		}
		if first == api.OK && mask != 0 {
			d.Turn(at, mask)
			if now := d.Peek(len(before)); now[at] != before[at]^mask {
				t.Fatalf("Turn of %s at %d by %d: %s", show(before), at, mask, show(now))
			}
		}
	}
}

// P9.8: Len is never above the room, however often more is written than finds room.
func TestNeverAboveTheRoom(t *testing.T) {
	g := rand.New(rand.NewPCG(9, 8))
	for _, room := range []int{1, 2, 3, 7, 64} {
		p := newPair(t, room)
		for _, d := range []*duct.Duct{p.In, p.Out} {
			for range 500 {
				free := d.Room()
				n, e := d.Write(someBytes(g, free), someBytes(g, g.IntN(3)))
				if e != api.OK || n != free || d.Len() != room || d.Room() != 0 {
					t.Fatalf("room %d: Write into %d free: %d, %v, then %d", room, free, n, e, d.Len())
				}
				d.Read(g.IntN(room + 1))
				d.Lose(g.IntN(d.Len()+1), g.IntN(3))
			}
		}
	}
}
