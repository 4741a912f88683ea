package sha_test

import (
	"bytes"
	"crypto/sha256"
	"math"
	"math/rand/v2"
	"testing"

	"treadle/api"
	"treadle/sha"
)

func sameState(a, b api.ShaState) bool {
	return a.H == b.H && bytes.Equal(a.Buf, b.Buf) && a.N == b.N
}

// asNew holds that a hash stands as New has it.
func asNew(t *testing.T, what string, h *sha.Hash) {
	t.Helper()
	if !sameState(h.State(), sha.New().State()) || h.Len() != 0 || sha.Hex(h.Sum()) != ofNothing {
		t.Errorf("%s: %v, Len %d, %x", what, h.State(), h.Len(), h.Sum())
	}
}

// S4: nothing was written, then some, and Sum changes nothing.
func TestPieces(t *testing.T) {
	h := sha.New()
	asNew(t, "New", h)
	if h.Write() != api.OK || h.Write(nil, []byte{}) != api.OK {
		t.Error("Write of nothing")
	}
	asNew(t, "nothing was written", h)
	if h.Write([]byte("a")) != api.OK || h.Write(nil, []byte("b"), []byte("c")) != api.OK || h.Len() != 3 {
		t.Errorf("Len: %d", h.Len())
	}
	if sha.Hex(h.Sum()) != ofAbc || sha.Hex(h.Sum()) != ofAbc || h.Len() != 3 {
		t.Errorf("Sum: %x, Len %d", h.Sum(), h.Len())
	}
	if h.Write([]byte("d")) != api.OK || h.Sum() != sha.Of([]byte("abcd")) || h.Len() != 4 {
		t.Errorf("written on: %x, Len %d", h.Sum(), h.Len())
	}
	h.Reset()
	asNew(t, "Reset", h)
	h.Write(make([]byte, 200))
	h.Reset()
	asNew(t, "Reset of whole blocks", h)
	if h.Write([]byte("abc")) != api.OK || sha.Hex(h.Sum()) != ofAbc {
		t.Errorf("behind Reset: %x", h.Sum())
	}
}

// S7: any pieces, at the lengths at which blocks turn, with a Sum after each.
func TestAnyPieces(t *testing.T) {
	g := rand.New(rand.NewPCG(2, 7))
	for _, n := range edgeLengths() {
		whole := someBytes(g, n)
		h := sha.New()
		for at := 0; at < n; {
			var l [][]byte
			for range g.IntN(4) {
				k := min(n-at, g.IntN(1+g.IntN(1+n)))
				l = append(l, whole[at:at+k])
				at += k
			}
			if e := h.Write(l...); e != api.OK || h.Len() != uint64(at) || h.Sum() != sha256.Sum256(whole[:at]) {
				t.Fatalf("%d of %d bytes: %d, Len %d, %x", at, n, e, h.Len(), h.Sum())
			}
		}
		if h.Sum() != sha.Of(whole) {
			t.Errorf("%d bytes: %x", n, h.Sum())
		}
	}
}

// S7: every cut into two, and byte by byte.
func TestCuts(t *testing.T) {
	whole := someBytes(rand.New(rand.NewPCG(2, 8)), 131)
	want := api.Digest(sha256.Sum256(whole))
	one := sha.New()
	for k := range whole {
		one.Write(whole[k : k+1])
		h := sha.New()
		h.Write(whole[:k])
		h.Write(whole[k:])
		if h.Sum() != want || sha.Of(whole[:k], whole[k:]) != want {
			t.Errorf("cut at %d: %x", k, h.Sum())
		}
	}
	if one.Sum() != want {
		t.Errorf("byte by byte: %x", one.Sum())
	}
}

// S4, R2: what would pass MaxHashed is not written, none of its parts; what just fits is.
func TestWriteTooLong(t *testing.T) {
	rest := someBytes(rand.New(rand.NewPCG(2, 9)), 61)
	h, e := sha.Load(api.ShaState{H: [8]uint32{1, 2, 3}, Buf: rest, N: api.MaxHashed - 2})
	if e != api.OK {
		t.Fatal(e)
	}
	before, sum := h.State(), h.Sum()
	for _, l := range [][][]byte{parts("abc"), parts("a", "b", "c"), parts("ab", "", "c"), parts("", "abc"), {make([]byte, 1000)}, {[]byte("a"), make([]byte, 64)}} {
		if e := h.Write(l...); e != api.ErrShaLong || !sameState(h.State(), before) || h.Sum() != sum || h.Len() != api.MaxHashed-2 {
			t.Errorf("Write(%.20q): %d, %v", l, e, h.State())
		}
	}
	if e := h.Write([]byte("a"), nil, []byte("b")); e != api.OK || h.Len() != api.MaxHashed || string(h.State().Buf) != string(rest)+"ab" {
		t.Errorf("what just fits: %d, %v", e, h.State())
	}
	want, _ := standing(t, before)([]byte("ab"))
	if h.Sum() != want {
		t.Errorf("Sum of MaxHashed bytes: %x, not %x", h.Sum(), want)
	}
	if h.Write() != api.OK || h.Write(nil, nil) != api.OK || h.Write([]byte("c")) != api.ErrShaLong || h.Sum() != want {
		t.Error("one more than MaxHashed")
	}
}

// S4, R5: a clone and the one it came from know nothing of one another.
func TestClone(t *testing.T) {
	for _, n := range []int{0, 1, 63, 64, 65, 130} {
		ahead := make([]byte, n)
		h := sha.New()
		h.Write(ahead)
		c := h.Clone()
		if c == h || !sameState(c.State(), h.State()) || c.Sum() != h.Sum() || c.Len() != h.Len() {
			t.Errorf("Clone behind %d bytes: %v, not %v", n, c.State(), h.State())
		}
		h.Write([]byte("left"))
		c.Write([]byte("right"), make([]byte, 64))
		if h.Sum() != sha.Of(ahead, []byte("left")) || c.Sum() != sha.Of(ahead, []byte("right"), make([]byte, 64)) {
			t.Errorf("Clone behind %d bytes: they turn one another", n)
		}
		h.Reset()
		if c.Sum() != sha.Of(ahead, []byte("right"), make([]byte, 64)) {
			t.Errorf("Clone behind %d bytes: Reset turns it", n)
		}
		d := c.Clone()
		c.Reset()
		if d.Len() != uint64(n)+69 || c.Len() != 0 {
			t.Errorf("Clone of a clone: %d, %d", d.Len(), c.Len())
		}
	}
}

// S5: the state behind so many bytes, and a hash that stands there goes on as the first does.
func TestStates(t *testing.T) {
	g := rand.New(rand.NewPCG(2, 5))
	whole := someBytes(g, 200)
	for n := range whole {
		h := sha.New()
		h.Write(whole[:n])
		s := h.State()
		words := sha.New().State().H
		for k := 0; k+64 <= n; k += 64 {
			words = sha.Compress(words, [64]byte(whole[k:]))
		}
		if s.H != words || !bytes.Equal(s.Buf, whole[n-n%64:n]) || s.N != uint64(n) {
			t.Errorf("State behind %d bytes: %v", n, s)
		}
		back, e := sha.Load(s)
		if e != api.OK || !sameState(back.State(), s) || back.Len() != uint64(n) || back.Sum() != h.Sum() {
			t.Fatalf("Load behind %d bytes: %d", n, e)
		}
		if back.Write(whole[n:]) != api.OK || back.Sum() != sha256.Sum256(whole) || !sameState(h.State(), s) {
			t.Errorf("Load behind %d bytes, written on: %x", n, back.Sum())
		}
	}
}

// S5: any eight words may stand there, noughts too, and any length that has its bytes.
func TestLoadsAnyWords(t *testing.T) {
	g := rand.New(rand.NewPCG(2, 6))
	for _, n := range []uint64{0, 1, 55, 56, 63, 64, 119, 1 << 32, 1<<61 - 64, api.MaxHashed - 8, api.MaxHashed - 1, api.MaxHashed} {
		for _, words := range [][8]uint32{{}, {7: 1}, someWords(g)} {
			s := api.ShaState{H: words, Buf: someBytes(g, int(n%64)), N: n}
			h, e := sha.Load(s)
			if e != api.OK || !sameState(h.State(), s) || h.Len() != n {
				t.Errorf("Load(%v): %d, %v", s, e, h.State())
				continue
			}
			if want, _ := standing(t, s)(nil); h.Sum() != want || h.Clone().Sum() != want {
				t.Errorf("Sum of %v: %x, not %x", s, h.Sum(), want)
			}
			more := someBytes(g, int(min(api.MaxHashed-n, 100)))
			if want, _ := standing(t, s)(more); h.Write(more) != api.OK || h.Sum() != want {
				t.Errorf("Sum of %v, written on: %x, not %x", s, h.Sum(), want)
			}
			h.Reset()
			asNew(t, "Reset of any words", h)
		}
	}
}

// S5: the chapter's example.
func TestLoadExample(t *testing.T) {
	h, e := sha.Load(api.ShaState{H: sha.New().State().H, Buf: []byte("abc"), N: 3})
	if e != api.OK || sha.Hex(h.Sum()) != ofAbc {
		t.Errorf("%d, %x", e, h.Sum())
	}
}

// S5, R3: a Buf that has not just as many bytes as N leaves, an N above MaxHashed.
func TestNoStates(t *testing.T) {
	for _, c := range []struct {
		n   uint64
		buf int
	}{
		{3, 0}, {3, 2}, {3, 4}, {0, 1}, {0, 64}, {63, 62}, {63, 64}, {63, 127}, {64, 64}, {64, 1}, {65, 0}, {65, 65}, {128, 128},
		{api.MaxHashed, 0}, {api.MaxHashed, 62}, {api.MaxHashed, 64},
		{api.MaxHashed + 1, 0}, {api.MaxHashed + 2, 1}, {1 << 63, 0}, {math.MaxUint64, 63}, {math.MaxUint64, 0},
	} {
		if h, e := sha.Load(api.ShaState{H: sha.New().State().H, Buf: make([]byte, c.buf), N: c.n}); e != api.ErrShaState || h != nil {
			t.Errorf("Load of N %d with %d bytes: %d", c.n, c.buf, e)
		}
	}
	if h, e := sha.Load(api.ShaState{N: 3}); e != api.ErrShaState || h != nil {
		t.Errorf("Load without bytes: %d", e)
	}
}

// S5, R4: a hash keeps neither the bytes that it was loaded with nor those that were written, and its state is not its own memory.
func TestStatesApart(t *testing.T) {
	room := []byte("abcdef")
	h, _ := sha.Load(api.ShaState{H: sha.New().State().H, Buf: room[:3], N: 3})
	fill(room, '-')
	if sha.Hex(h.Sum()) != ofAbc {
		t.Error("Load keeps Buf")
	}
	copy(room, "defghi")
	h.Write(room[:3])
	if string(room) != "defghi" {
		t.Errorf("Write changed its part: %q", room)
	}
	fill(room, '-')
	want := sha.Of([]byte("abcdef"))
	one, two := h.State(), h.State()
	fill(append(one.Buf, "###"...), '#')
	fill(one.Buf, '#')
	one.H[0]++
	if h.Sum() != want || string(two.Buf) != "abcdef" || string(h.State().Buf) != "abcdef" || h.State().H != two.H {
		t.Errorf("State shares memory: %v, %v", two, h.State())
	}
	h.Write([]byte("xyz"))
	if string(two.Buf) != "abcdef" || two.N != 6 {
		t.Errorf("a state that was told turns: %v", two)
	}
}

// S6: a nil hash.
func TestNilHash(t *testing.T) {
	var h *sha.Hash
	if h.Write() != api.ErrNil || h.Write([]byte("a"), nil) != api.ErrNil {
		t.Error("Write")
	}
	h.Reset()
	if h.Sum() != (api.Digest{}) || h.Len() != 0 || !sameState(h.State(), api.ShaState{}) || h.Clone() != nil {
		t.Errorf("Sum %x, Len %d, State %v", h.Sum(), h.Len(), h.State())
	}
}

// S6: a plain hash is as New has it, whichever call comes first.
func TestPlainHash(t *testing.T) {
	for name, first := range map[string]func(h *sha.Hash){
		"none":  func(h *sha.Hash) {},
		"Write": func(h *sha.Hash) { h.Write() },
		"Sum":   func(h *sha.Hash) { h.Sum() },
		"Len":   func(h *sha.Hash) { h.Len() },
		"State": func(h *sha.Hash) { h.State() },
		"Clone": func(h *sha.Hash) { h.Clone().Write([]byte("x")) },
		"Reset": func(h *sha.Hash) { h.Reset() },
		"both":  func(h *sha.Hash) { h.Write([]byte("x")); h.Reset() },
	} {
		for _, h := range []*sha.Hash{{}, new(sha.Hash), new(sha.Hash).Clone()} {
			first(h)
			asNew(t, name, h)
			asNew(t, name+", Clone", h.Clone())
			c := h.Clone()
			if h.Write([]byte("a"), []byte("bc")) != api.OK || sha.Hex(h.Sum()) != ofAbc || h.Len() != 3 {
				t.Errorf("%s, then Write: %x, Len %d", name, h.Sum(), h.Len())
			}
			asNew(t, name+", a clone behind Write", c)
		}
	}
}

// S8: from a digest alone one can write on, behind the padding.
func TestLengthExtension(t *testing.T) {
	g := rand.New(rand.NewPCG(2, 10))
	for _, n := range edgeLengths() {
		m, x := someBytes(g, n), someBytes(g, g.IntN(150))
		pad, _ := sha.Pad(uint64(n))
		d := sha.Of(m)
		h, e := sha.Load(api.ShaState{H: wordsOf(d[:]), N: uint64(n + len(pad))})
		if e != api.OK || h.Write(x) != api.OK {
			t.Fatalf("behind %d bytes: %d", n, e)
		}
		if want := sha.Of(m, pad, x); h.Sum() != want || want != sha256.Sum256(bytes.Join([][]byte{m, pad, x}, nil)) {
			t.Errorf("behind %d bytes: %x, not %x", n, h.Sum(), want)
		}
	}
}

// R5: two hashes know nothing of one another.
func TestHashesApart(t *testing.T) {
	one, two := sha.New(), sha.New()
	one.Write([]byte("abc"))
	two.Write([]byte("x"))
	two.Reset()
	if sha.Hex(one.Sum()) != ofAbc {
		t.Errorf("%x", one.Sum())
	}
	asNew(t, "the other", two)
}
