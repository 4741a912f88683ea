package duct_test

import (
	"bytes"
	"math/rand/v2"
	"testing"
	"unsafe"

	"treadle/duct"
)

// roomy is a copy with spare room behind its end, which is filled, too.
func roomy(b string) []byte {
	out := append([]byte(b), 7, 7, 7, 7, 7, 7)
	return out[:len(b)]
}

func whole(b []byte) []byte { return b[:cap(b)] }

func fill(b []byte) {
	for i := range whole(b) {
		whole(b)[i] = 99
	}
}

// meet tells whether two lists share memory, their spare room with it.
func meet(a, b []byte) bool {
	from, other := uintptr(unsafe.Pointer(unsafe.SliceData(a))), uintptr(unsafe.Pointer(unsafe.SliceData(b)))
	return from < other+uintptr(cap(b)) && other < from+uintptr(cap(a))
}

// R4: parts are not changed and not kept, nor what lies behind their ends, nor the list of them.
func TestPartsAreNotKept(t *testing.T) {
	d, s := newDuct(t, 9)
	p, q := roomy("abcd"), roomy("efghijk")
	beforeP, beforeQ := bytes.Clone(whole(p)), bytes.Clone(whole(q))
	parts := [][]byte{p, q, []byte("x")}[:2]
	hold(t, "Write", both(d.Write(parts...)), both(s.write(parts...)))
	hold(t, "Turn", d.Turn(1, 255), s.turn(1, 255))
	hold(t, "Lose", both(d.Lose(2, 3)), both(s.lose(2, 3)))
	holdBytes(t, "Read", d.Read(1), s.read(1))
	hold(t, "Write", both(d.Write(p)), both(s.write([]byte("abcd"))))
	if !bytes.Equal(whole(p), beforeP) || !bytes.Equal(whole(q), beforeQ) {
		t.Error("a part was changed")
	}
	if &parts[0][0] != &p[0] || &parts[1][0] != &q[0] || string(parts[:3][2]) != "x" {
		t.Error("the list of parts was changed")
	}
	fill(p)
	fill(q)
	clear(parts[:3])
	holdStand(t, d, s)
}

// R4: a part that is the first one, whole, into an empty duct, is not kept either.
func TestFirstPartIsNotKept(t *testing.T) {
	d, _ := newDuct(t, 9)
	p := roomy("abcd")
	d.Write(p)
	d.Write([]byte("efg"))
	if !bytes.Equal(whole(p)[:10], []byte("abcd\x07\x07\x07\x07\x07\x07")) {
		t.Error("a part's spare room was changed")
	}
	fill(p)
	holdBytes(t, "Read", d.Read(9), []byte("abcdefg"))
}

// R4: what Read and Peek answer is new memory: filled up to its spare room's end it changes neither the duct nor another answer, and no later call changes it.
func TestAnswersAreNewMemory(t *testing.T) {
	d, s := newDuct(t, 30, []byte("abcdefghijklmnopqrst"))
	var answers [][]byte
	for range 3 {
		answers = append(answers, d.Peek(4), d.Peek(30), d.Read(3), d.Peek(2))
		s.read(3)
	}
	hold(t, "Write", both(d.Write([]byte("0123456789"))), both(s.write([]byte("0123456789"))))
	answers = append(answers, d.Peek(30), d.Read(1))
	s.read(1)
	for i, a := range answers {
		for _, b := range answers[i+1:] {
			if meet(a, b) {
				t.Error("two answers share memory")
			}
		}
		fill(a)
	}
	holdStand(t, d, s)
	d.Turn(0, 1)
	d.Lose(1, 2)
	d.Write([]byte("and more of it"))
	d.Read(30)
	for _, a := range answers {
		if !bytes.Equal(whole(a), bytes.Repeat([]byte{99}, cap(a))) {
			t.Error("an answer was changed by a later call")
		}
	}
}

// R4: an answer of Read that was all there was.
func TestReadOfAll(t *testing.T) {
	d, _ := newDuct(t, 8, []byte("abcd"))
	all := d.Read(4)
	d.Write([]byte("efgh"))
	fill(all)
	d.Write([]byte("ijkl"))
	holdBytes(t, "Read", d.Read(9), []byte("efghijkl"))
	holdBytes(t, "the first answer", all[:4], []byte{99, 99, 99, 99})
}

// R5: two ducts know nothing of one another, those of a pair neither; bytes that go from one to the other and back are each one's own.
func TestDuctsApart(t *testing.T) {
	g := rand.New(rand.NewPCG(9, 5))
	for range 200 {
		p, other := newPair(t, 40), newPair(t, 9)
		ducts := []*duct.Duct{p.In, p.Out, other.In, other.Out}
		slows := []*slow{{room: 40}, {room: 40}, {room: 9}, {room: 9}}
		for range 60 {
			i, j := g.IntN(4), g.IntN(4)
			step(t, g, ducts[i], slows[i])
			b := ducts[i].Read(3)
			hold(t, "Write", both(ducts[j].Write(b)), both(slows[j].write(slows[i].read(3))))
			for k := range ducts {
				holdStand(t, ducts[k], slows[k])
			}
			if t.Failed() {
				return
			}
		}
	}
}
