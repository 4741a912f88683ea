package print_test

import (
	"slices"
	"strings"
	"testing"

	"treadle/api"
	"treadle/lex"
	"treadle/parse"
	"treadle/print"
)

// checkForms holds what follows against a module, one that has forms.
func checkForms(t *testing.T, m api.Module) {
	t.Helper()
	laid, e := print.Module(m)
	short, f := print.Tight(m)
	if e != api.OK || f != api.OK {
		t.Fatal("no forms:", m, e, f)
	}
	tokens := spell(laid)
	// P15.7, and of the gaps between what the chapter says of them.
	if !slices.Equal(tokens, spell(short)) || short != tight(tokens) || laid != laidOut(tokens) {
		t.Fatalf("%q and %q", laid, short)
	}
	// P15.4, with just as much fuel as there are tokens.
	for _, s := range []string{laid, short} {
		back, f := parse.Module(s, len(tokens))
		if f != (api.Fault{}) || !print.Same(back, m) || !alike(back, m) {
			t.Fatalf("%q is read as %v, %v", s, back, f)
		}
		// P15.5
		if again, f := print.Format(s); again != laid || f != (api.Fault{}) {
			t.Fatalf("Format(%q): %q, %v", s, again, f)
		}
		if n := slowLevels(tokens); print.Levels(back) != n || print.Levels(m) != n {
			t.Fatalf("Levels of %q: %d, %d, not %d", s, print.Levels(back), print.Levels(m), n)
		}
	}
}

// checkSource holds P15.5 and P15.6 against a source that is read as a module: its tokens with the least between them.
func checkSource(t *testing.T, tokens []string, m api.Module) {
	t.Helper()
	src := tight(tokens)
	short, e := print.Tight(m)
	if e != api.OK || len(short) > len(src) {
		t.Fatalf("Tight: %q, %v; of %q", short, e, src)
	}
	if n := slowLevels(tokens); print.Levels(m) > n {
		t.Fatalf("%q: %d levels, not %d", src, print.Levels(m), n)
	}
	laid, _ := print.Module(m)
	if s, f := print.Format(src); s != laid || f != (api.Fault{}) {
		t.Fatalf("Format(%q): %q, %v, not %q", src, s, f, laid)
	}
}

// P15.4, P15.5, P15.7: there and back, one form, the same tokens.
func TestThereAndBack(t *testing.T) {
	r := newMaker(4)
	for range 2000 {
		checkForms(t, r.module(1+r.IntN(7)))
	}
	for _, src := range samples {
		checkForms(t, read(t, src))
	}
	checkForms(t, api.Module{})
}

// P15.5, P15.6: texts that are read as one module have one Format, and none is shorter than Tight, or opens fewer levels.
func TestOtherSources(t *testing.T) {
	r := newMaker(5)
	longer, deeper := 0, 0
	for range 1000 {
		m := r.module(1 + r.IntN(6))
		laid, _ := print.Module(m)
		short, _ := print.Tight(m)
		for range 3 {
			src := r.scatter(m)
			back := read(t, src)
			if s, f := print.Format(src); !print.Same(back, m) || s != laid || f != (api.Fault{}) {
				t.Fatalf("Format(%q): %q, %v, not %q", src, s, f, laid)
			}
			tokens := spell(src)
			checkSource(t, tokens, back)
			if len(tight(tokens)) > len(short) {
				longer++
			}
			if slowLevels(tokens) > print.Levels(m) {
				deeper++
			}
		}
	}
	if longer < 500 || deeper < 500 {
		t.Error("too few that are longer, or deeper:", longer, deeper)
	}
}

// P15.6: of all expressions of a few tokens none is shorter than Tight, or opens fewer levels.
func TestFewTokens(t *testing.T) {
	n := grow(t, []string{"const", "c", "="}, []string{";"}, []string{"a", "-", "<", "*", "!", "(", ")"}, 7)
	n += grow(t, []string{"const", "c", "="}, []string{";"}, []string{"a", "||", "&&", "==", "(", ")"}, 7)
	n += grow(t, []string{"const", "c", "="}, []string{";"}, []string{"1", "true", "++", "+", ",", ".", "b", "(", ")"}, 6)
	if n < 2000 {
		t.Error("too few expressions:", n)
	}
	n = grow(t, []string{"func", "f", "(", ")", "{"}, []string{"}"}, []string{"a", "if", "else", "{", "}"}, 17)
	n += grow(t, []string{"func", "f", "(", ")", "{"}, []string{"}"}, []string{"a", "1", "=", "return", "print", "var", "while", "(", ")", ";", "{", "}"}, 7)
	n += grow(t, nil, nil, []string{"export", "const", "func", "f", "=", "1", ";", "(", ")", "{", "}", ":", "int"}, 11)
	if n < 200 {
		t.Error("too few statements:", n)
	}
}

// grow checks every row of tokens between a head and a tail that is a module, and tells how many are; one that is wrong already has no longer ones.
func grow(t *testing.T, head, tail, tokens []string, n int) int {
	t.Helper()
	found := 0
	whole := slices.Concat(head, tail)
	if m, f := parse.Module(strings.Join(whole, " "), 999); f == (api.Fault{}) {
		checkSource(t, whole, m)
		found++
	}
	ahead := strings.Join(head, " ")
	if _, f := parse.Module(ahead, 999); n == 0 || f != (api.Fault{}) && f.At < len(ahead) {
		return found
	}
	for _, s := range tokens {
		found += grow(t, slices.Concat(head, []string{s}), tail, tokens, n-1)
	}
	return found
}

// P15.6: of all texts of a few bytes none that is read as the same module is shorter than Tight.
func TestFewBytes(t *testing.T) {
	found := 0
	var each func(s string, n int)
	each = func(s string, n int) {
		src := "const c=" + s + ";"
		if m, f := parse.Module(src, 99); f == (api.Fault{}) {
			found++
			short, e := print.Tight(m)
			if back, f := parse.Module(short, 99); e != api.OK || len(short) > len(src) || f != (api.Fault{}) || !alike(back, m) {
				t.Fatalf("Tight of %q: %q, %v, %v", src, short, e, f)
			}
		}
		for i := range len(bytesOfSources) * min(n, 1) {
			each(s+bytesOfSources[i:i+1], n-1)
		}
	}
	each("", 5)
	if found < 500 {
		t.Error("too few:", found)
	}
}

const bytesOfSources = `a1"(-+=/! `

// P15.7, P15.1: between two tokens of the short form stands a blank just if both are words, keys or numbers.
func TestGapsOfTheShortForm(t *testing.T) {
	r := newMaker(6)
	blanks := 0
	for range 1000 {
		short, _ := print.Tight(r.module(5))
		all, _ := lex.All(short)
		wordy := func(i int) bool {
			return i >= 0 && (all[i].Kind == api.TokenWord || all[i].Kind == api.TokenKey || all[i].Kind == api.TokenNumber)
		}
		last := 0
		for i, x := range all {
			gap := short[last:x.From]
			if want := wordy(i-1) && wordy(i); gap == " " != want || gap == "" == want {
				t.Fatalf("%q: %q ahead of byte %d", short, gap, x.From)
			} else if want {
				blanks++
			}
			last = x.To
		}
	}
	if blanks < 1000 {
		t.Error("too few blanks:", blanks)
	}
}
