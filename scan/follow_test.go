package scan_test

import (
	"math/rand/v2"
	"slices"
	"strings"
	"testing"

	"treadle/api"
	"treadle/lex"
	"treadle/scan"
)

// check holds all that may be asked of a text against the slow answers.
func check(t *testing.T, text string, l ...api.Include) {
	t.Helper()
	got, f := scan.Includes(text)
	want, head, why := slowIncludes(text)
	if !slices.Equal(got, want) || f != why {
		t.Fatalf("Includes(%q): %v, %v, not %v, %v", text, got, f, want, why)
	}
	if n := scan.Head(text); n != head {
		t.Fatalf("Head(%q): %d, not %d", text, n, head)
	}
	if names := scan.Names(got); len(names) != len(got) {
		t.Fatalf("Names of %q: %q", text, names)
	}
	checkAimed(t, "x.m", got)
	checkWith(t, text)
	checkWith(t, text, l...)
}

func checkAimed(t *testing.T, module string, l []api.Include) {
	t.Helper()
	got, f := scan.Aimed(module, l)
	if want, why := slowAimed(module, l); !slices.Equal(got, want) || f != why {
		t.Fatalf("Aimed(%q, %v): %q, %v, not %q, %v", module, l, got, f, want, why)
	}
}

// checkWith is P13.4 and P13.7.
func checkWith(t *testing.T, text string, l ...api.Include) {
	t.Helper()
	s, e := scan.With(text, l...)
	if want, why := slowWith(text, l); s != want || e != why {
		t.Fatalf("With(%q, %v): %q, %d, not %q, %d", text, l, s, e, want, why)
	}
	if e != api.OK {
		return
	}
	back, f := scan.Includes(s)
	if f != (api.Fault{}) || !slices.EqualFunc(back, l, alike) {
		t.Fatalf("Includes(With(%q, %v)): %v, %v", text, l, back, f)
	}
	bare, _ := scan.With(s)
	if again, e := scan.With(bare); again != bare || e != api.OK || len(l) == 0 && bare != s {
		t.Fatalf("With(%q): %q, and again: %q, %d", s, bare, again, e)
	}
}

// alike tells whether two includes are the same, places aside.
func alike(a, b api.Include) bool { return a.Path == b.Path && a.Name == b.Name }

// P13.1 to P13.4 and P13.7 at all texts of a few tokens.
func TestFewTokens(t *testing.T) {
	tokens := []string{"include", `"a"`, "as", "b", ";", "@", "const"}
	var grow func(text string, n int)
	grow = func(text string, n int) {
		check(t, text, in("./x", "y", 7))
		if n == 0 {
			return
		}
		for _, x := range tokens {
			grow(text+x+" ", n-1)
		}
	}
	grow("", 6)
	// An include ahead, so that one more may be wrong behind a right one.
	grow(`include "a" as b;`, 4)
}

// The same at all texts of a few bytes that stand behind the beginning of an include.
func TestFewBytes(t *testing.T) {
	const bytes = "a\"/; \n@"
	var grow func(text string, n int)
	grow = func(text string, n int) {
		for _, ahead := range []string{"", "include", `include "`, `include "a"as`, `include"a"as b`, `include"a"as b;`} {
			check(t, ahead+text)
		}
		if n == 0 {
			return
		}
		for i := range len(bytes) {
			grow(text+bytes[i:i+1], n-1)
		}
	}
	grow("", 4)
}

// The same at texts of any kind.
func TestRandomTexts(t *testing.T) {
	r := rand.New(rand.NewPCG(13, 1))
	right, wrong := 0, 0
	for range 30000 {
		text := randomText(r)
		check(t, text, randomList(r)...)
		switch l, f := scan.Includes(text); {
		case f.Why != api.OK:
			wrong++
		case len(l) > 0:
			right++
		}
	}
	if right < 5000 || wrong < 5000 {
		t.Error("too few of a kind:", right, wrong)
	}
	for range 30000 {
		b := make([]byte, r.IntN(20))
		for i := range b {
			b[i] = byte(r.IntN(256))
		}
		check(t, string(b), randomList(r)...)
		check(t, "include "+string(b), randomList(r)...)
	}
}

// P13.3 at lists and modules of any kind.
func TestRandomAims(t *testing.T) {
	r := rand.New(rand.NewPCG(13, 2))
	modules := []string{"", "x", "x.m", "a/x", "a/b/x", "a/b/c/d/x", "/x", "x/", ".", "..", "a/../x", "\xff"}
	written := []string{".", "..", "a", "b.m", "", "/", "...", "a b"}
	for range 30000 {
		l := randomList(r)
		for i := range l {
			if r.IntN(2) == 0 {
				l[i].Path = one(r, written) + strings.Repeat("/"+one(r, written), r.IntN(3)) + "/" + one(r, written)
			}
		}
		checkAimed(t, one(r, modules), l)
	}
}

// P13.6: what stands behind the token that ends the includes has no part.
func TestNoFurther(t *testing.T) {
	r := rand.New(rand.NewPCG(13, 3))
	for range 3000 {
		text := randomHead(r, r.IntN(4))
		last := anyToken(r)
		for last == "include" {
			last = anyToken(r)
		}
		text += one(r, gapTexts) + last + one(r, []string{" ", "\n", "\t", "\r"})
		want, head, why := slowIncludes(text)
		if why != (api.Fault{}) {
			t.Fatalf("%q: %v", text, why)
		}
		for range 4 {
			other := text + randomText(r)
			if len(other) > api.MaxSource {
				continue
			}
			if l, f := scan.Includes(other); !slices.Equal(l, want) || f != (api.Fault{}) || scan.Head(other) != head {
				t.Fatalf("Includes(%q): %v, %v, not %v", other, l, f, want)
			}
		}
	}
}

// P13.6: so it is of the token that makes a fault.
func TestNoFurtherThanTheFault(t *testing.T) {
	r := rand.New(rand.NewPCG(13, 4))
	kept := 0
	for range 6000 {
		text := randomHead(r, r.IntN(3)) + " include"
		for range r.IntN(4) {
			text += one(r, gapTexts) + anyToken(r)
		}
		_, f := scan.Includes(text)
		x, e := lex.Next(text, f.At)
		if f.Why == api.OK || e != api.OK || x.Kind == api.TokenEnd {
			continue
		}
		kept++
		other := text[:x.To] + " " + randomText(r)
		if l, g := scan.Includes(other); len(l) != 0 || g != f {
			t.Fatalf("Includes(%q): %v, %v, not %v", other, l, g, f)
		}
	}
	if kept < 1000 {
		t.Error("too few faults:", kept)
	}
}

// P13.7: without includes With is the same again, and what it leaves is the text from Head on.
func TestWithAgain(t *testing.T) {
	r := rand.New(rand.NewPCG(13, 5))
	for range 5000 {
		text := randomText(r)
		s, e := scan.With(text)
		if e != api.OK {
			continue
		}
		if s != text[scan.Head(text):] {
			t.Fatalf("With(%q): %q", text, s)
		}
		if again, e := scan.With(s); again != s || e != api.OK {
			t.Fatalf("With(%q): %q, %d", s, again, e)
		}
	}
}
