package sha_test

import (
	"bytes"
	"encoding/hex"
	"math/rand/v2"
	"strings"
	"testing"

	"treadle/api"
	"treadle/sha"
)

// S3: the text of a digest, and back.
func TestHex(t *testing.T) {
	g := rand.New(rand.NewPCG(2, 3))
	l := []api.Digest{{}, {0x01, 0x23, 0x45, 0x67, 0x89, 0xab, 0xcd, 0xef}, api.Digest(bytes.Repeat([]byte{255}, 32)), {31: 0x0f}, {0: 0xf0}}
	for c := range 256 {
		l = append(l, api.Digest{0: byte(c), 17: byte(c), 31: byte(c)})
	}
	for range 50 {
		l = append(l, api.Digest(someBytes(g, 32)))
	}
	for _, d := range l {
		s := sha.Hex(d)
		if s != hex.EncodeToString(d[:]) {
			t.Errorf("Hex(%x): %s", d, s)
		}
		if back, e := sha.Unhex(s); back != d || e != api.OK {
			t.Errorf("Unhex(%s): %x, %d", s, back, e)
		}
	}
	if s := sha.Hex(api.Digest{}); s != strings.Repeat("0", 64) {
		t.Errorf("Hex of noughts: %s", s)
	}
}

// S3: every byte at every place of the text: only the sixteen digits are taken.
func TestSignsOfTexts(t *testing.T) {
	for at := range 64 {
		for c := range 256 {
			b := []byte(ofAbc)
			b[at] = byte(c)
			d, e := sha.Unhex(string(b))
			if strings.Contains("0123456789abcdef", string(b[at:at+1])) {
				if e != api.OK || sha.Hex(d) != string(b) {
					t.Errorf("Unhex(%s): %x, %d", b, d, e)
				}
			} else if e != api.ErrHex || d != (api.Digest{}) {
				t.Errorf("Unhex(%q): %x, %d", b, d, e)
			}
		}
	}
}

// S3, R3: texts of another length, or in upper case, are none.
func TestNoTexts(t *testing.T) {
	for _, s := range []string{
		"", "b", "ba", ofAbc[1:], ofAbc[:63], ofAbc + "0", "0" + ofAbc, ofAbc[:62], ofAbc + "00", ofAbc + ofAbc,
		strings.ToUpper(ofAbc), "BA78" + ofAbc[4:], ofAbc[:63] + "D", "0x" + ofAbc[2:], " " + ofAbc[1:], ofAbc[:63] + "\n", "é" + ofAbc[2:],
	} {
		if d, e := sha.Unhex(s); e != api.ErrHex || d != (api.Digest{}) {
			t.Errorf("Unhex(%q): %x, %d", s, d, e)
		}
	}
}

// S3: the first byte that parts two digests orders them, wherever it stands.
func TestCompare(t *testing.T) {
	for at := range 32 {
		low, high := api.Digest{}, api.Digest{}
		low[at], high[at] = 127, 128
		for behind := at + 1; behind < 32; behind++ {
			low[behind] = 255
		}
		if sha.Compare(low, high) != -1 || sha.Compare(high, low) != 1 || sha.Compare(low, low) != 0 {
			t.Errorf("at %d: %d, %d, %d", at, sha.Compare(low, high), sha.Compare(high, low), sha.Compare(low, low))
		}
	}
	if sha.Compare(api.Digest{1}, api.Digest{0, 9}) != 1 || sha.Compare(api.Digest{}, api.Digest{}) != 0 {
		t.Error("the first byte")
	}
	g := rand.New(rand.NewPCG(2, 4))
	for range 200 {
		a, b := api.Digest{}, api.Digest{}
		a[g.IntN(32)], b[g.IntN(32)] = byte(g.IntN(3)), byte(g.IntN(3))
		if got, want := sha.Compare(a, b), strings.Compare(sha.Hex(a), sha.Hex(b)); got != want {
			t.Errorf("Compare(%x, %x): %d, not %d", a, b, got, want)
		}
	}
}
