package sha_test

import (
	"bytes"
	"crypto/sha256"
	"encoding/binary"
	"math/rand/v2"
	"strings"
	"testing"

	"treadle/api"
	"treadle/sha"
)

const (
	ofNothing = "e3b0c44298fc1c149afbf4c8996fb92427ae41e4649b934ca495991b7852b855"
	ofAbc     = "ba7816bf8f01cfea414140de5dae2223b00361a396177a9cb410ff61f20015ad"
)

// parts are texts as parts.
func parts(l ...string) [][]byte {
	var out [][]byte
	for _, s := range l {
		out = append(out, []byte(s))
	}
	return out
}

func fill(b []byte, c byte) {
	b = b[:cap(b)]
	for i := range b {
		b[i] = c
	}
}

// edgeLengths are those round which a padding turns, and some further ones.
func edgeLengths() []int {
	l := []int{1000, 4096, 65537}
	for n := range 200 {
		l = append(l, n)
	}
	return l
}

// S1: well-known digests, the chapter's examples among them.
func TestOfExamples(t *testing.T) {
	for _, c := range []struct {
		parts [][]byte
		want  string
	}{
		{nil, ofNothing},
		{parts(""), ofNothing},
		{[][]byte{nil, nil}, ofNothing},
		{parts("abc"), ofAbc},
		{parts("a", "", "bc"), ofAbc},
		{parts("abcdbcdecdefdefgefghfghighijhijkijkljklmklmnlmnomnopnopq"), "248d6a61d20638b8e5c026930c3e6039a33ce45964ff2167f6ecedd419db06c1"},
		{parts(strings.Repeat("a", 1000000)), "cdc76e5c9914fb9281a1c7e284d73e67f1809a48a497200e046d39ccc7112cd0"},
	} {
		if got := sha.Hex(sha.Of(c.parts...)); got != c.want {
			t.Errorf("Of(%.100q): %s, not %s", c.parts, got, c.want)
		}
	}
}

// S1: lengths round 55, 56, 63, 64 and 119 and all others near, held against the library.
func TestOfLengths(t *testing.T) {
	g := rand.New(rand.NewPCG(2, 2))
	for _, n := range edgeLengths() {
		b := someBytes(g, n)
		want := api.Digest(sha256.Sum256(b))
		if got := sha.Of(b); got != want {
			t.Errorf("Of %d bytes: %x, not %x", n, got, want)
		}
		k := g.IntN(n + 1)
		if got := sha.Of(b[:k], nil, b[k:]); got != want {
			t.Errorf("Of %d bytes, cut at %d: %x, not %x", n, k, got, want)
		}
	}
}

// S2: the forms of preimages, tags of 1 and 32 bytes and with all their signs among them.
func TestPreimage(t *testing.T) {
	long := "abcdefghijklmnopqrstuvwxyz......"
	none := strings.Repeat("\x00", 7)
	for _, c := range []struct {
		tag   string
		parts [][]byte
		want  string
	}{
		{"a.b", parts("xy"), "\x03a.b" + none + "\x02xy"},
		{"a", nil, "\x01a"},
		{"z", parts(""), "\x01z" + none + "\x00"},
		{".", [][]byte{nil, {0}}, "\x01." + none + "\x00" + none + "\x01\x00"},
		{"..", parts("a", "bc"), "\x02.." + none + "\x01a" + none + "\x02bc"},
		{long, parts("x"), "\x20" + long + none + "\x01x"},
		{"a", parts(strings.Repeat("q", 300)), "\x01a\x00\x00\x00\x00\x00\x00\x01\x2c" + strings.Repeat("q", 300)},
		{"a", parts(strings.Repeat("q", 1<<17+3)), "\x01a\x00\x00\x00\x00\x00\x02\x00\x03" + strings.Repeat("q", 1<<17+3)},
	} {
		got, e := sha.Preimage(c.tag, c.parts...)
		if string(got) != c.want || e != api.OK {
			t.Errorf("Preimage(%q, %.50q): %.100x, %d, not %.100x", c.tag, c.parts, got, e, c.want)
		}
		d, e := sha.Tagged(c.tag, c.parts...)
		if d != sha256.Sum256([]byte(c.want)) || e != api.OK {
			t.Errorf("Tagged(%q, %.50q): %x, %d", c.tag, c.parts, d, e)
		}
	}
}

// S2: of every byte, whether it may stand in a tag, alone, first and last.
func TestSignsOfTags(t *testing.T) {
	for c := range 256 {
		s := string([]byte{byte(c)})
		want := api.ErrTag
		if c == '.' || 'a' <= c && c <= 'z' {
			want = api.OK
		}
		for _, tag := range []string{s, s + "ab", "ab" + s, "a" + s + "b"} {
			_, e := sha.Preimage(tag)
			_, f := sha.Tagged(tag)
			if e != want || f != want {
				t.Errorf("the tag %q: %d, %d, not %d", tag, e, f, want)
			}
		}
	}
}

// S2, R3: what is no tag has no preimage and no digest.
func TestNoTags(t *testing.T) {
	for _, tag := range []string{"", "A", "a b", "a.B", "0", "a-b", "\xff", "é", strings.Repeat("a", 33), strings.Repeat(".", 300)} {
		if b, e := sha.Preimage(tag, []byte("x")); e != api.ErrTag || len(b) != 0 {
			t.Errorf("Preimage(%q): %x, %d", tag, b, e)
		}
		if d, e := sha.Tagged(tag, []byte("x")); e != api.ErrTag || d != (api.Digest{}) {
			t.Errorf("Tagged(%q): %x, %d", tag, d, e)
		}
	}
}

// eachList goes over all lists of at most two of these parts, which are made to be taken for one another's lengths.
func eachList(do func(l [][]byte)) {
	number := binary.BigEndian.AppendUint64(nil, 1)
	few := [][]byte{nil, {0}, {1}, {'a'}, []byte("aa"), number, append(number, 'a'), make([]byte, 8), make([]byte, 16), []byte(".a")}
	do(nil)
	for _, a := range few {
		do([][]byte{a})
		for _, b := range few {
			do([][]byte{a, b})
		}
	}
}

// S9: unlike lists or tags have unlike preimages; of one tag and as many parts none is another one's beginning.
func TestPreimagesApart(t *testing.T) {
	type made struct {
		tag   string
		count int
		bytes []byte
	}
	var all []made
	for _, tag := range []string{"a", "aa", ".", "a.", ".a", "aaaaaaaa", strings.Repeat("a", 32)} {
		eachList(func(l [][]byte) {
			b, e := sha.Preimage(tag, l...)
			if e != api.OK {
				t.Fatalf("Preimage(%q, %q): %d", tag, l, e)
			}
			all = append(all, made{tag, len(l), b})
		})
	}
	for i, a := range all {
		for j, b := range all {
			if i != j && bytes.Equal(a.bytes, b.bytes) {
				t.Errorf("the preimage % x of two lists, with the tags %q and %q", a.bytes, a.tag, b.tag)
			}
			if i != j && a.tag == b.tag && a.count == b.count && bytes.HasPrefix(a.bytes, b.bytes) {
				t.Errorf("the preimage % x begins with % x", a.bytes, b.bytes)
			}
		}
	}
}

// R4: what is handed in stays as it is, its spare room and the list of parts too.
func TestLeavesParts(t *testing.T) {
	whole := []byte(strings.Repeat("abcdefgh", 40))
	before := string(whole)
	list := [][]byte{whole[:3], whole[3:130:200], whole[5:5], whole[200:], []byte("behind")}
	use := map[string]func(l ...[]byte){
		"Of":       func(l ...[]byte) { sha.Of(l...) },
		"Preimage": func(l ...[]byte) { sha.Preimage("a", l...) },
		"Tagged":   func(l ...[]byte) { sha.Tagged("a", l...) },
		"Write":    func(l ...[]byte) { h := sha.New(); h.Write(l...); h.Write(l...); h.Sum() },
	}
	for name, do := range use {
		do(list[:4]...)
		if string(whole) != before || len(list[0]) != 3 || len(list[1]) != 127 || len(list[2]) != 0 || len(list[3]) != 120 || string(list[4]) != "behind" {
			t.Errorf("%s changed what was handed in", name)
		}
	}
}

// R4: an answer, spare room too, is apart from what was handed in and from another answer.
func TestAnswersAreNewMemory(t *testing.T) {
	whole := []byte("abcdefghijkl")
	for name, answer := range map[string]func() []byte{
		"Pad":              func() []byte { p, _ := sha.Pad(55); return p },
		"Preimage":         func() []byte { p, _ := sha.Preimage("a.b", whole[:4], whole[4:]); return p },
		"Preimage of none": func() []byte { p, _ := sha.Preimage("a.b"); return p },
		"Buf": func() []byte {
			h := sha.New()
			h.Write(whole[:4])
			return h.State().Buf
		},
	} {
		one, two := answer(), answer()
		want := string(one)
		fill(append(one, 'x'), '#')
		fill(one, '#')
		if string(two) != want || string(whole) != "abcdefghijkl" || string(answer()) != want {
			t.Errorf("%s: an answer shares memory", name)
		}
		fill(whole, '-')
		if string(two) != want {
			t.Errorf("%s: an answer shares memory with what was handed in", name)
		}
		copy(whole, "abcdefghijkl")
	}
}
