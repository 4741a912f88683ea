package wire_test

import (
	"bytes"
	"encoding/binary"
	"math"
	"slices"
	"strings"
	"testing"

	"treadle/wire"
)

// edgeNumbers are 0, and those beside each power of two, up to 2^64 - 1.
func edgeNumbers() []uint64 {
	l := []uint64{0, 300, math.MaxUint64}
	for i := range 64 {
		p := uint64(1) << i
		l = append(l, p-1, p, p+1)
	}
	return l
}

// edgeInts are those beside 0 and each power of two, with both signs, and the bounds.
func edgeInts() []int64 {
	l := []int64{math.MinInt64, math.MinInt64 + 1, math.MaxInt64 - 1, math.MaxInt64}
	for _, n := range edgeNumbers() {
		l = append(l, int64(n), -int64(n))
	}
	return l
}

func same(t *testing.T, what string, got []byte, want string) {
	t.Helper()
	if string(got) != want {
		t.Errorf("%s: % x, not % x", what, got, want)
	}
}

// P1.1: the examples of the chapter, and the edges.
func TestPutExamples(t *testing.T) {
	nines := strings.Repeat("\xff", 9)
	same(t, "PutUint 0", wire.PutUint(nil, 0), "\x00")
	same(t, "PutUint 1", wire.PutUint(nil, 1), "\x01")
	same(t, "PutUint 127", wire.PutUint(nil, 127), "\x7f")
	same(t, "PutUint 128", wire.PutUint(nil, 128), "\x80\x01")
	same(t, "PutUint 300", wire.PutUint(nil, 300), "\xac\x02")
	same(t, "PutUint 2^63", wire.PutUint(nil, 1<<63), strings.Repeat("\x80", 9)+"\x01")
	same(t, "PutUint 2^64-1", wire.PutUint(nil, math.MaxUint64), nines+"\x01")
	same(t, "PutInt 0", wire.PutInt(nil, 0), "\x00")
	same(t, "PutInt -1", wire.PutInt(nil, -1), "\x01")
	same(t, "PutInt 1", wire.PutInt(nil, 1), "\x02")
	same(t, "PutInt -2", wire.PutInt(nil, -2), "\x03")
	same(t, "PutInt least", wire.PutInt(nil, math.MinInt64), nines+"\x01")
	same(t, "PutInt greatest", wire.PutInt(nil, math.MaxInt64), "\xfe"+nines[1:]+"\x01")
	same(t, "PutBool false", wire.PutBool(nil, false), "\x00")
	same(t, "PutBool true", wire.PutBool(nil, true), "\x01")
	same(t, "PutText none", wire.PutText(nil), "")
	same(t, "PutText empty", wire.PutText(nil, ""), "\x00")
	same(t, "PutText hi", wire.PutText(nil, "hi", ""), "\x02hi\x00")
	same(t, "PutText any bytes", wire.PutText(nil, "\x00\xff\x80"), "\x03\x00\xff\x80")
	same(t, "PutText of 300", wire.PutText(nil, strings.Repeat("x", 300)), "\xac\x02"+strings.Repeat("x", 300))
	same(t, "PutList none", wire.PutList(nil), "\x00")
	same(t, "PutList empty text", wire.PutList(nil, ""), "\x01\x00")
	same(t, "PutList two", wire.PutList(nil, "a", "bc"), "\x02\x01a\x02bc")
	many := make([]string, 300)
	same(t, "PutList of 300", wire.PutList(nil, many...), "\xac\x02"+strings.Repeat("\x00", 300))
}

// P1.1: what is put stands behind the bytes that are handed in.
func TestPutBehind(t *testing.T) {
	b := []byte("ab")
	same(t, "PutUint", wire.PutUint(b, 300), "ab\xac\x02")
	same(t, "PutInt", wire.PutInt(b, -151), "ab\xad\x02")
	same(t, "PutBool", wire.PutBool(b, true), "ab\x01")
	same(t, "PutText none", wire.PutText(b), "ab")
	same(t, "PutText", wire.PutText(b, "c", "de"), "ab\x01c\x02de")
	same(t, "PutList none", wire.PutList(b), "ab\x00")
	same(t, "PutList", wire.PutList(b, "c", "de"), "ab\x02\x01c\x02de")
	same(t, "one behind the other", wire.PutBool(wire.PutText(wire.PutUint(nil, 5), "x"), false), "\x05\x01x\x00")
}

// P1.1: the numbers' form is the well-known one, held against the library's.
func TestPutNumbers(t *testing.T) {
	for _, n := range edgeNumbers() {
		want := binary.AppendUvarint(nil, n)
		same(t, "PutUint", wire.PutUint(nil, n), string(want))
		if got := wire.Size(n); got != len(want) {
			t.Errorf("Size(%d): %d, not %d", n, got, len(want))
		}
	}
	for _, n := range edgeInts() {
		same(t, "PutInt", wire.PutInt(nil, n), string(binary.AppendVarint(nil, n)))
	}
}

// P1.1: Size at the edges of each group of seven bits.
func TestSize(t *testing.T) {
	for _, c := range []struct {
		n    uint64
		want int
	}{{0, 1}, {1, 1}, {127, 1}, {128, 2}, {1<<14 - 1, 2}, {1 << 14, 3}, {1<<63 - 1, 9}, {1 << 63, 10}, {math.MaxUint64, 10}} {
		if got := wire.Size(c.n); got != c.want {
			t.Errorf("Size(%d): %d, not %d", c.n, got, c.want)
		}
	}
}

// puts are all the calls that lay bytes down, each with something to lay.
func puts() map[string]func(b []byte) []byte {
	return map[string]func(b []byte) []byte{
		"PutUint":         func(b []byte) []byte { return wire.PutUint(b, 1<<40) },
		"PutUint 0":       func(b []byte) []byte { return wire.PutUint(b, 0) },
		"PutInt":          func(b []byte) []byte { return wire.PutInt(b, -1<<40) },
		"PutBool false":   func(b []byte) []byte { return wire.PutBool(b, false) },
		"PutBool true":    func(b []byte) []byte { return wire.PutBool(b, true) },
		"PutText of none": func(b []byte) []byte { return wire.PutText(b) },
		"PutText":         func(b []byte) []byte { return wire.PutText(b, "one", "", "two") },
		"PutList of none": func(b []byte) []byte { return wire.PutList(b) },
		"PutList":         func(b []byte) []byte { return wire.PutList(b, "one", "", "two") },
	}
}

func fill(b []byte, c byte) {
	b = b[:cap(b)]
	for i := range b {
		b[i] = c
	}
}

// R4: a Put leaves what is handed in, and the spare room behind it, as they are, and shares neither with its answer, nor one answer with another.
func TestPutIsNewMemory(t *testing.T) {
	for name, put := range puts() {
		whole := []byte("abcdefghijklmnopqrstuvwxyz0123456789")
		before := string(whole)
		b := whole[:3]
		one, two := put(b), put(b)
		want := string(one)
		if string(whole) != before {
			t.Errorf("%s changed what lies behind the end: %q", name, whole)
		}
		fill(one, '#')
		if string(whole) != before || string(two) != want {
			t.Errorf("%s: an answer shares memory", name)
		}
		fill(whole, '-')
		if string(two) != want {
			t.Errorf("%s: an answer shares memory with what was handed in", name)
		}
	}
}

// R4: an answer's spare room is its own: what is laid behind one answer does not come to light behind another.
func TestPutSpareRoom(t *testing.T) {
	for name, put := range puts() {
		first := put([]byte("abc"))
		left, right := append(first, "left"...), put(first)
		want := string(right)
		fill(left, '#')
		fill(first, '-')
		if string(right) != want {
			t.Errorf("%s: %q became %q", name, want, right)
		}
	}
}

// R4: the list of texts that is handed in is not changed, nor what lies behind its end.
func TestPutLeavesTexts(t *testing.T) {
	whole := []string{"a", "bc", "behind", "further"}
	before := slices.Clone(whole)
	wire.PutText(nil, whole[:2]...)
	wire.PutList(nil, whole[:2]...)
	if !slices.Equal(whole, before) {
		t.Errorf("the texts became %q", whole)
	}
}

// R5: the same call answers the same.
func TestPutAgain(t *testing.T) {
	for name, put := range puts() {
		if !bytes.Equal(put([]byte("x")), put([]byte("x"))) {
			t.Errorf("%s answers otherwise the second time", name)
		}
	}
}
