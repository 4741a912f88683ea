package duct_test

import (
	"fmt"
	"math"
	"math/rand/v2"
	"slices"
	"testing"

	"treadle/api"
	"treadle/duct"
)

// P9.1, P9.2: the chapter's first example.
func TestFirstExample(t *testing.T) {
	d, _ := newDuct(t, 4)
	hold(t, "Write", both(d.Write([]byte("ab"), []byte("cde"))), answer{4, api.OK})
	hold(t, "Room", d.Room(), 0)
	holdBytes(t, "Peek", d.Peek(2), []byte("ab"))
	holdBytes(t, "Read", d.Read(3), []byte("abc"))
	hold(t, "Len", d.Len(), 1)
	hold(t, "Write", both(d.Write([]byte("x"))), answer{1, api.OK})
	holdBytes(t, "Read", d.Read(9), []byte("dx"))
	hold(t, "Count", d.Count(), api.Count{In: 5, Out: 5})
	_, e := duct.New(0)
	hold(t, "New", e, api.ErrRoom)
}

// P9.3, P9.4: the chapter's second example.
func TestSecondExample(t *testing.T) {
	d, _ := newDuct(t, 9, []byte("abcd"))
	hold(t, "Turn", d.Turn(1, 1), api.OK)
	holdBytes(t, "Peek", d.Peek(9), []byte("accd"))
	hold(t, "Lose", both(d.Lose(2, 9)), answer{2, api.OK})
	hold(t, "Lose", both(d.Lose(3, 1)), answer{0, api.ErrPlace})
	holdBytes(t, "Read", d.Read(2), []byte("ac"))
	hold(t, "Shut", d.Shut(), api.OK)
	hold(t, "Shut", d.Shut(), api.ErrShut)
	hold(t, "Write", both(d.Write([]byte("y"))), answer{0, api.ErrShut})
	hold(t, "Done", d.Done(), true)
	hold(t, "Count", d.Count(), api.Count{In: 4, Out: 2, Turned: 1, Lost: 2})
}

// P9.1: a room is 1 to MaxRoom.
func TestRooms(t *testing.T) {
	for _, room := range []int{1, 2, 4096, api.MaxRoom - 1, api.MaxRoom} {
		d, s := newDuct(t, room)
		holdStand(t, d, s)
	}
	for _, room := range []int{0, -1, math.MinInt, api.MaxRoom + 1, math.MaxInt} {
		if d, e := duct.New(room); d != nil || e != api.ErrRoom {
			t.Errorf("New(%d): %v, %v", room, d, e)
		}
	}
}

// P9.1, P9.2: MaxRoom bytes find room, and one more does not; they come out as they went in.
func TestMostRoom(t *testing.T) {
	b := someBytes(rand.New(rand.NewPCG(9, 1)), api.MaxRoom+1)
	d, _ := newDuct(t, api.MaxRoom)
	hold(t, "Write", both(d.Write(b[:api.MaxRoom-1])), answer{api.MaxRoom - 1, api.OK})
	hold(t, "Room", d.Room(), 1)
	hold(t, "Write", both(d.Write(b[api.MaxRoom-1:])), answer{1, api.OK})
	hold(t, "Len", d.Len(), api.MaxRoom)
	hold(t, "Room", d.Room(), 0)
	holdBytes(t, "Peek", d.Peek(math.MaxInt), b[:api.MaxRoom])
	for at := 0; at < api.MaxRoom; at += 16 {
		if !slices.Equal(d.Read(16), b[at:at+16]) {
			t.Fatalf("Read at %d", at)
		}
	}
	hold(t, "Count", d.Count(), api.Count{In: api.MaxRoom, Out: api.MaxRoom})
	hold(t, "Write", both(d.Write(b)), answer{api.MaxRoom, api.OK})
	hold(t, "Lose", both(d.Lose(0, math.MaxInt)), answer{api.MaxRoom, api.OK})
	hold(t, "Room", d.Room(), api.MaxRoom)
}

// P9.2: of all parts as many bytes as find room, the first ones.
func TestWrite(t *testing.T) {
	for _, c := range []struct {
		parts []string
		in    string
	}{
		{nil, ""},
		{[]string{""}, ""},
		{[]string{"", "", ""}, ""},
		{[]string{"a"}, "a"},
		{[]string{"", "a", "", "b", ""}, "ab"},
		{[]string{"abcd"}, "abcd"},
		{[]string{"ab", "cd"}, "abcd"},
		{[]string{"abcde"}, "abcd"},
		{[]string{"abcd", "e"}, "abcd"},
		{[]string{"ab", "cde"}, "abcd"},
		{[]string{"ab", "cde", "f"}, "abcd"},
		{[]string{"", "abcdefgh", "i", ""}, "abcd"},
		{[]string{"a", "b", "c", "d", "e", "f"}, "abcd"},
	} {
		var parts [][]byte
		for _, p := range c.parts {
			parts = append(parts, []byte(p))
		}
		d, _ := newDuct(t, 4)
		hold(t, fmt.Sprintf("Write of %q", c.parts), both(d.Write(parts...)), answer{len(c.in), api.OK})
		holdBytes(t, "Peek", d.Peek(9), []byte(c.in))
		hold(t, "Room", d.Room(), 4-len(c.in))
		hold(t, "Count", d.Count(), api.Count{In: len(c.in)})
	}
}

// P9.2: parts that are nil are empty; a full duct takes 0 bytes, and that is OK.
func TestWriteIntoFull(t *testing.T) {
	d, s := newDuct(t, 1, nil, nil)
	hold(t, "Write", both(d.Write(nil, []byte("a"), nil)), both(s.write([]byte("a"))))
	for _, parts := range [][][]byte{nil, {nil}, {[]byte("b")}, {nil, []byte("bc"), []byte("d")}} {
		hold(t, "Write of "+show(parts), both(d.Write(parts...)), answer{0, api.OK})
		holdStand(t, d, s)
	}
	holdBytes(t, "Read", d.Read(1), []byte("a"))
	hold(t, "Write", both(d.Write([]byte("bc"))), answer{1, api.OK})
	holdBytes(t, "Read", d.Read(1), []byte("b"))
}

// P9.2: Read and Peek of n below 1, of less than there is, of as many, of more.
func TestReadAndPeek(t *testing.T) {
	all := []byte("abcd")
	for n, want := range map[int]int{math.MinInt: 0, -1: 0, 0: 0, 1: 1, 3: 3, 4: 4, 5: 4, math.MaxInt: 4} {
		d, s := newDuct(t, 6, all)
		holdBytes(t, fmt.Sprint("Peek ", n), d.Peek(n), all[:want])
		holdStand(t, d, s)
		holdBytes(t, fmt.Sprint("Read ", n), d.Read(n), all[:want])
		hold(t, "Len", d.Len(), 4-want)
		hold(t, "Room", d.Room(), 2+want)
		hold(t, "Count", d.Count(), api.Count{In: 4, Out: want})
		holdBytes(t, "Peek", d.Peek(9), all[want:])
	}
	d, s := newDuct(t, 6)
	for _, n := range []int{math.MinInt, -1, 0, 1, math.MaxInt} {
		holdBytes(t, "Peek", d.Peek(n), nil)
		holdBytes(t, "Read", d.Read(n), nil)
		holdStand(t, d, s)
	}
}

// P9.3: Turn at all places and by all masks.
func TestTurn(t *testing.T) {
	for mask := range 256 {
		for at := range 4 {
			d, s := newDuct(t, 6, []byte("\x00a\xffz"))
			s.bytes[at] ^= byte(mask)
			if mask != 0 {
				s.count.Turned = 1
			}
			hold(t, fmt.Sprint("Turn ", at, mask), d.Turn(at, byte(mask)), api.OK)
			holdStand(t, d, s)
		}
	}
}

// P9.3: there is no byte to turn below 0 and from Len on, though there be room; a mask of 0 is no way around that.
func TestTurnNowhere(t *testing.T) {
	for _, b := range []string{"", "a", "abcd"} {
		for _, at := range []int{math.MinInt, -1, len(b), len(b) + 1, 6, math.MaxInt} {
			for _, mask := range []byte{0, 1, 255} {
				d, s := newDuct(t, 6, []byte(b))
				hold(t, fmt.Sprint("Turn ", at, mask), d.Turn(at, mask), api.ErrPlace)
				holdStand(t, d, s)
			}
		}
	}
	// What was read or lost has no place any more.
	d, s := newDuct(t, 4, []byte("abcd"))
	holdBytes(t, "Read", d.Read(1), s.read(1))
	hold(t, "Turn", d.Turn(3, 1), api.ErrPlace)
	hold(t, "Lose", both(d.Lose(0, 1)), both(s.lose(0, 1)))
	hold(t, "Turn", d.Turn(2, 1), api.ErrPlace)
	hold(t, "Turn", d.Turn(1, 1), s.turn(1, 1))
	holdBytes(t, "Read", d.Read(9), []byte("ce"))
}

// P9.3: Lose at all places, of all numbers.
func TestLose(t *testing.T) {
	for at := range 5 {
		for _, n := range []int{0, 1, 2, 3, 4, 5, 100, math.MaxInt} {
			d, _ := newDuct(t, 6, []byte("abcd"))
			lost := min(n, 4-at)
			hold(t, fmt.Sprint("Lose ", at, n), both(d.Lose(at, n)), answer{lost, api.OK})
			holdBytes(t, "Peek", d.Peek(9), []byte("abcd"[:at]+"abcd"[at+lost:]))
			hold(t, "Len", d.Len(), 4-lost)
			hold(t, "Room", d.Room(), 2+lost)
			hold(t, "Count", d.Count(), api.Count{In: 4, Lost: lost})
			hold(t, "Write", both(d.Write([]byte("123456"))), answer{2 + lost, api.OK})
			holdBytes(t, "Read", d.Read(9), []byte("abcd"[:at]+"abcd"[at+lost:]+"123456"[:2+lost]))
		}
	}
	d, s := newDuct(t, 6)
	hold(t, "Lose of none", both(d.Lose(0, 3)), answer{0, api.OK})
	holdStand(t, d, s)
}

// P9.3, R2: ErrPlace comes ahead of ErrArg, and nothing is changed beside an error.
func TestLoseWrongly(t *testing.T) {
	for _, b := range []string{"", "a", "abcd"} {
		for _, n := range []int{math.MinInt, -1, 0, 1, math.MaxInt} {
			for _, at := range []int{math.MinInt, -1, len(b) + 1, 6, math.MaxInt} {
				d, s := newDuct(t, 6, []byte(b))
				hold(t, fmt.Sprint("Lose ", at, n), both(d.Lose(at, n)), answer{0, api.ErrPlace})
				holdStand(t, d, s)
			}
		}
		for _, n := range []int{math.MinInt, -1} {
			for at := range len(b) + 1 {
				d, s := newDuct(t, 6, []byte(b))
				hold(t, fmt.Sprint("Lose ", at, n), both(d.Lose(at, n)), answer{0, api.ErrArg})
				holdStand(t, d, s)
			}
		}
	}
}

// P9.1 to P9.4: into a duct that is shut nothing more goes; what is in it is read, turned and lost as before.
func TestShut(t *testing.T) {
	d, s := newDuct(t, 9, []byte("abcdef"))
	hold(t, "Done", d.Done(), false)
	hold(t, "Shut", d.Shut(), api.OK)
	s.shut = true
	holdStand(t, d, s)
	hold(t, "Room", d.Room(), 0)
	for range 2 {
		hold(t, "Shut", d.Shut(), api.ErrShut)
		for _, parts := range [][][]byte{nil, {nil}, {[]byte("")}, {[]byte("x")}, {[]byte("xyz"), []byte("0123456789")}} {
			hold(t, "Write of "+show(parts), both(d.Write(parts...)), answer{0, api.ErrShut})
		}
		holdStand(t, d, s)
	}
	holdBytes(t, "Read", d.Read(2), s.read(2))
	hold(t, "Turn", d.Turn(3, 1), s.turn(3, 1))
	hold(t, "Turn", d.Turn(4, 1), api.ErrPlace)
	hold(t, "Lose", both(d.Lose(1, 2)), both(s.lose(1, 2)))
	hold(t, "Done", d.Done(), false)
	holdStand(t, d, s)
	holdBytes(t, "Read", d.Read(9), []byte("cg"))
	hold(t, "Done", d.Done(), true)
	hold(t, "Room", d.Room(), 0)
	hold(t, "Count", d.Count(), api.Count{In: 6, Out: 4, Turned: 1, Lost: 2})
}

// P9.4: done is shut and empty, whatever emptied it, and whichever came first.
func TestDone(t *testing.T) {
	d, _ := newDuct(t, 3)
	hold(t, "Done of an empty one", d.Done(), false)
	d.Shut()
	hold(t, "Done of one that was never used", d.Done(), true)
	d, _ = newDuct(t, 3, []byte("ab"))
	d.Shut()
	d.Lose(0, 1)
	hold(t, "Done with a byte", d.Done(), false)
	d.Lose(0, 1)
	hold(t, "Done of one that lost all", d.Done(), true)
	hold(t, "Shut", d.Shut(), api.ErrShut)
	d, _ = newDuct(t, 3, []byte("ab"))
	d.Read(2)
	hold(t, "Done of one that is open", d.Done(), false)
}

// P9.4: the Turns of one byte count each; those by 0, those at no place, Peeks, and what found no room do not.
func TestCount(t *testing.T) {
	d, _ := newDuct(t, 3, []byte("abcdef"))
	for range 3 {
		d.Turn(0, 7)
		d.Turn(1, 0)
		d.Turn(3, 7)
		d.Peek(2)
		d.Lose(4, 1)
		d.Lose(0, -1)
		d.Write([]byte("x"))
	}
	hold(t, "Count", d.Count(), api.Count{In: 3, Turned: 3})
	d.Lose(1, 1)
	d.Write([]byte("x"))
	d.Read(2)
	d.Lose(0, 5)
	hold(t, "Count", d.Count(), api.Count{In: 4, Out: 2, Turned: 3, Lost: 2})
}

// P9.5, R1: a duct that is nil, or that no call made, answers ErrNil, ahead of all else, and zero values; and stays as it is.
func TestNoDuct(t *testing.T) {
	for name, d := range map[string]*duct.Duct{"nil": nil, "plain": {}, "new": new(duct.Duct)} {
		for range 2 {
			for _, parts := range [][][]byte{nil, {nil}, {[]byte("ab"), []byte("c")}} {
				hold(t, name+": Write", both(d.Write(parts...)), answer{0, api.ErrNil})
			}
			for _, n := range []int{math.MinInt, -1, 0, 1, math.MaxInt} {
				hold(t, name+": Read", len(d.Read(n)), 0)
				hold(t, name+": Peek", len(d.Peek(n)), 0)
				hold(t, name+": Turn", d.Turn(n, 0), api.ErrNil)
				hold(t, name+": Turn", d.Turn(n, 1), api.ErrNil)
				for _, at := range []int{-1, 0, 1} {
					hold(t, name+": Lose", both(d.Lose(at, n)), answer{0, api.ErrNil})
				}
			}
			hold(t, name+": Len", d.Len(), 0)
			hold(t, name+": Room", d.Room(), 0)
			hold(t, name+": Shut", d.Shut(), api.ErrNil)
			hold(t, name+": Done", d.Done(), false)
			hold(t, name+": Count", d.Count(), api.Count{})
		}
	}
}
