package duct_test

import (
	"math"
	"testing"

	"treadle/api"
	"treadle/duct"
)

func newPair(t *testing.T, room int) *duct.Pair {
	t.Helper()
	p, e := duct.NewPair(room)
	if p == nil || e != api.OK || p.In == nil || p.Out == nil || p.In == p.Out {
		t.Fatalf("NewPair(%d): %v, %v", room, p, e)
	}
	return p
}

// P9.5: two empty ducts with that room.
func TestNewPair(t *testing.T) {
	for _, room := range []int{1, 2, 4096, api.MaxRoom - 1, api.MaxRoom} {
		p := newPair(t, room)
		holdStand(t, p.In, &slow{room: room})
		holdStand(t, p.Out, &slow{room: room})
	}
	for _, room := range []int{0, -1, math.MinInt, api.MaxRoom + 1, math.MaxInt} {
		if p, e := duct.NewPair(room); p != nil || e != api.ErrRoom {
			t.Errorf("NewPair(%d): %v, %v", room, p, e)
		}
	}
}

// P9.5: Shut of a pair, of which none, one or both are shut ahead.
func TestShutPair(t *testing.T) {
	for _, in := range []bool{false, true} {
		for _, out := range []bool{false, true} {
			p := newPair(t, 3)
			p.In.Write([]byte("ab"))
			p.Out.Write([]byte("c"))
			want := api.OK
			if in {
				p.In.Shut()
			}
			if out {
				p.Out.Shut()
			}
			if in && out {
				want = api.ErrShut
			}
			hold(t, "Shut", p.Shut(), want)
			hold(t, "Shut again", p.Shut(), api.ErrShut)
			holdStand(t, p.In, &slow{room: 3, bytes: []byte("ab"), shut: true, count: api.Count{In: 2}})
			holdStand(t, p.Out, &slow{room: 3, bytes: []byte("c"), shut: true, count: api.Count{In: 1}})
			hold(t, "Shut of In", p.In.Shut(), api.ErrShut)
			hold(t, "Shut of Out", p.Out.Shut(), api.ErrShut)
		}
	}
}

// P9.5, R2: without a pair or one of its ducts it is ErrNil, though the other be shut; and that one stays as it is.
func TestNoPair(t *testing.T) {
	var none *duct.Pair
	hold(t, "Shut of nil", none.Shut(), api.ErrNil)
	hold(t, "Shut of a plain one", new(duct.Pair).Shut(), api.ErrNil)
	for name, no := range map[string]*duct.Duct{"nil": nil, "plain": {}} {
		for _, shut := range []bool{false, true} {
			d, s := newDuct(t, 3, []byte("ab"))
			if shut {
				hold(t, "Shut", d.Shut(), s.close())
			}
			for range 2 {
				hold(t, name+" In", (&duct.Pair{In: no, Out: d}).Shut(), api.ErrNil)
				hold(t, name+" Out", (&duct.Pair{In: d, Out: no}).Shut(), api.ErrNil)
				hold(t, name+" both", (&duct.Pair{In: no, Out: no}).Shut(), api.ErrNil)
				holdStand(t, d, s)
			}
		}
	}
}

// P9.5: a pair of ducts that were made by themselves, and one of the same duct twice.
func TestPairOfOthers(t *testing.T) {
	in, _ := newDuct(t, 1)
	out, _ := newDuct(t, 2)
	p := &duct.Pair{In: in, Out: out}
	hold(t, "Shut", p.Shut(), api.OK)
	hold(t, "Done", in.Done() && out.Done(), true)
	hold(t, "Shut", p.Shut(), api.ErrShut)
	d, _ := newDuct(t, 1)
	p = &duct.Pair{In: d, Out: d}
	hold(t, "Shut", p.Shut(), api.OK)
	hold(t, "Shut", p.Shut(), api.ErrShut)
}
