package lex_test

import (
	"math/rand/v2"
	"slices"
	"strings"
	"testing"

	"treadle/api"
	"treadle/lex"
)

// check holds all that may be asked of a source against the slow answers.
func check(t *testing.T, src string) {
	t.Helper()
	l, f := lex.All(src)
	want, why := slowAll(src)
	if !slices.Equal(l, want) || f != why {
		t.Fatalf("All(%q): %v, %v, not %v, %v", src, l, f, want, why)
	}
	for at := -1; at <= len(src)+1; at++ {
		x, e := lex.Next(src, at)
		if y, g := slowNext(src, at); x != y || e != g {
			t.Fatalf("Next(%q, %d): %v, %d, not %v, %d", src, at, x, e, y, g)
		}
		a, b, e := lex.Place(src, at)
		if c, d, g := slowPlace(src, at); a != c || b != d || e != g {
			t.Fatalf("Place(%q, %d): %d, %d, %d", src, at, a, b, e)
		}
	}
	checkWhole(t, src)
	checkMunch(t, src, l)
	checkNothingLost(t, src, l)
}

// checkWhole asks of what s just is (L3).
func checkWhole(t *testing.T, s string) {
	t.Helper()
	kind := slowKind(s)
	if lex.Word(s) != (kind == api.TokenWord) || lex.Key(s) != (kind == api.TokenKey) {
		t.Fatalf("%q: word %v, key %v", s, lex.Word(s), lex.Key(s))
	}
	if _, e := lex.Number(s); (e == api.OK) != (kind == api.TokenNumber) {
		t.Fatalf("%q: number %d", s, e)
	}
	if _, e := lex.Text(s); (e == api.OK) != (kind == api.TokenText) {
		t.Fatalf("%q: text %d", s, e)
	}
	// L7.
	q, e := lex.Quote(s)
	if e != api.OK || q != slowQuote(s) {
		t.Fatalf("Quote(%q): %s, %d", s, q, e)
	}
	if v, e := lex.Text(q); v != s || e != api.OK {
		t.Fatalf("Text(%s): %q, %d", q, v, e)
	}
}

// begins tells whether s is the beginning of a token, by asking for tokens that begin so.
func begins(s string) bool {
	for _, more := range []string{"", `"`, `0"`, `00"`, `n"`, `x00"`, "=", "&", "|", "+"} {
		if whole := s + more; whole != "" && slowKind(whole) != api.TokenEnd {
			return true
		}
	}
	return false
}

// checkMunch is L5.
func checkMunch(t *testing.T, src string, l []api.Token) {
	t.Helper()
	for _, x := range l {
		if x.To < len(src) && begins(src[x.From:x.To+1]) {
			t.Fatalf("%q: %v is not as long as may be", src, x)
		}
	}
}

// checkNothingLost is L6: tokens rise, and all between them is a gap.
func checkNothingLost(t *testing.T, src string, l []api.Token) {
	t.Helper()
	at := 0
	for i, x := range l {
		between := src[at:x.From]
		if gapForm.FindString(between) != between {
			t.Fatalf("%q: %q is no gap", src, between)
		}
		last := i == len(l)-1
		if last != (x.Kind == api.TokenEnd) || !last && x.To <= x.From || last && (x.From != len(src) || x.To != len(src)) {
			t.Fatalf("%q: %v", src, l)
		}
		at = x.To
	}
}

func TestBegins(t *testing.T) {
	for _, s := range []string{"a", "if", "0", "12", `"`, `"a`, `"\`, `"\x`, `"\x1`, `"a"`, "=", "==", "&", "|", "!", "#"} {
		if !begins(s) {
			t.Error(s)
		}
	}
	for _, s := range []string{"01", "1a", `"a"b`, "===", "&|", "@", "//", " ", "a ", strings.Repeat("a", 33)} {
		if begins(s) {
			t.Error(s)
		}
	}
}

// L1 to L7 at all sources of a few bytes.
func TestSmallSources(t *testing.T) {
	for alphabet, most := range map[string]int{"a_09\"\\xn/\n =+&<!|{\xff": 3, "a1/\n \"": 5, "\"\\xa0n/": 5, "=<!+&|>/": 5} {
		eachSource(alphabet, most, func(src string) { check(t, src) })
	}
}

func eachSource(alphabet string, most int, do func(string)) {
	src := make([]byte, 0, most)
	var grow func()
	grow = func() {
		do(string(src))
		if len(src) == most {
			return
		}
		for i := range len(alphabet) {
			src = append(src, alphabet[i])
			grow()
			src = src[:len(src)-1]
		}
	}
	grow()
}

// L1 to L7 at greater ones.
func TestRandomSources(t *testing.T) {
	r := rand.New(rand.NewPCG(12, 1))
	for range 20000 {
		check(t, randomSource(r))
	}
	for range 20000 {
		b := make([]byte, r.IntN(12))
		for i := range b {
			b[i] = byte(r.IntN(256))
		}
		check(t, string(b))
	}
}

// L6: other gaps that begin with a blank, between all tokens, leave the tokens as they are.
func TestOtherGaps(t *testing.T) {
	r := rand.New(rand.NewPCG(12, 2))
	kept := 0
	for range 20000 {
		src := randomSource(r)
		l, f := lex.All(src)
		if f != (api.Fault{}) {
			continue
		}
		kept++
		var other []byte
		var want []api.Token
		for _, x := range l {
			for range 1 + r.IntN(3) {
				other = append(other, randomGap(r)...)
			}
			from := len(other)
			other = append(other, src[x.From:x.To]...)
			want = append(want, tok(x.Kind, from, len(other)))
		}
		if got, f := lex.All(string(other)); !slices.Equal(got, want) || f != (api.Fault{}) {
			t.Fatalf("All(%q): %v, %v, not %v", other, got, f, want)
		}
	}
	if kept < 10000 {
		t.Error("too few sources:", kept)
	}
}

// L2: one wrong token among right ones is told, and the first alone.
func TestFirstFault(t *testing.T) {
	r := rand.New(rand.NewPCG(12, 3))
	for range 2000 {
		var src []byte
		for range r.IntN(8) {
			src = append(append(src, tokenTexts[r.IntN(len(tokenTexts))]...), randomGap(r)...)
		}
		at := len(src)
		src = append(src, badTexts[r.IntN(len(badTexts))]...)
		_, why := slowNext(string(src), at)
		for range r.IntN(3) {
			// A text without an end goes no farther than its line.
			src = append(append(src, "\n"+randomGap(r)...), badTexts[r.IntN(len(badTexts))]...)
		}
		if l, f := lex.All(string(src)); len(l) != 0 || f.At != at || f.Why == api.OK || f.Why != why {
			t.Fatalf("All(%q): %v, %v", src, l, f)
		}
	}
}

// L7 at values of any bytes and lengths.
func TestTextOfQuote(t *testing.T) {
	r := rand.New(rand.NewPCG(12, 4))
	for range 300 {
		b := make([]byte, r.IntN(api.MaxText+1))
		for i := range b {
			b[i] = byte(r.IntN(256))
		}
		q, e := lex.Quote(string(b))
		if e != api.OK {
			t.Fatal(e)
		}
		if v, e := lex.Text(q); v != string(b) || e != api.OK {
			t.Fatalf("%q: %d", b, e)
		}
		if l, f := lex.All(q); len(l) != 2 || f != (api.Fault{}) || l[0] != tok(api.TokenText, 0, len(q)) {
			t.Fatal(l, f)
		}
	}
}
