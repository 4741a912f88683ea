package parse_test

import (
	"math/rand/v2"
	"slices"
	"strings"
	"testing"

	"treadle/api"
	"treadle/parse"
)

func tokenTexts(src string) (l []string) {
	for _, x := range tokensOf(src) {
		l = append(l, src[x.From:x.To])
	}
	return l
}

// G4: tokens of modules, and of none.
func TestFits(t *testing.T) {
	for _, l := range [][]string{{}, {"const", "c", "=", "1", ";"}, {"func", "f", "(", ")", "{", "}"}, {"include", `"a b"`, "as", "a", ";"}, {"const", "c", "=", "a", "/", "b", ";"}, {"const", "c", "=", "-", "-", "a", "+", "-", "1", ";"}, {"const", "c", "=", `" // "`, ";"}} {
		if !parse.Fits(l...) {
			t.Errorf("%q does not fit", l)
		}
	}
	for _, src := range samples {
		l := tokenTexts(src)
		if !parse.Fits(l...) {
			t.Errorf("%q does not fit", l)
		}
		for i := range l {
			if parse.Fits(slices.Delete(slices.Clone(l), i, i+1)...) != slowFits(slices.Delete(slices.Clone(l), i, i+1)) {
				t.Errorf("%q without %d", l, i)
			}
		}
	}
	for _, l := range [][]string{{"const"}, {"x"}, {";"}, {"const", "c", "=", ";"}, {"const", "c", "=", "1"}, {"const", "c", "=", "1", ";", ";"}, {"const", "c", "=", "a", "/", "/", "b", ";"}, {"const", "c", "=", "a", "=", "=", "b", ";"}, {"const", "c", "=", "a", "<", "b", "<", "c", ";"}, {"-", "1"}, {"1"}} {
		if parse.Fits(l...) {
			t.Errorf("%q fits", l)
		}
	}
}

// G4: texts that are no token, two tokens, and none, wherever they stand in what would be a module.
func TestFitsOfNoTokens(t *testing.T) {
	right := []string{"const", "c", "=", "1", "+", "2", ";"}
	if parse.Fits("") || parse.Fits(" ") || parse.Fits("", "") || parse.Fits("// x") || parse.Fits("const c = 1;") || parse.Fits("const c = 1 ;") {
		t.Error("texts that are none fit")
	}
	no := []string{"", " ", "\n", "//", "// x", "//\n", "c =", "1+", "+2", "c;", "a b", " c", "c ", "c\n", "\tc", "c//", "c// x", "=1", "1;", "==;", "()", "=>", "a.b", "1 2", `"a""b"`, `"a" `, "-1", "+++", "///"}
	for s := range noTokens {
		no = append(no, s)
	}
	for _, s := range no {
		for i := range len(right) + 1 {
			if l := slices.Insert(slices.Clone(right), i, s); parse.Fits(l...) {
				t.Errorf("%q fits", l)
			}
			if i == len(right) {
				continue
			}
			l := slices.Clone(right)
			l[i] = s
			if parse.Fits(l...) {
				t.Errorf("%q fits", l)
			}
			l[i] = right[i] + s
			if s != "" && parse.Fits(l...) != slowFits(l) {
				t.Errorf("%q fits", l)
			}
		}
		if parse.Fits(s) || parse.Fits(s, s) {
			t.Errorf("%q fits", s)
		}
	}
	// With the gaps of a source, but in the wrong texts.
	if parse.Fits("const c", "=", "1", ";") || parse.Fits("const", "c", "=", "1", ";", "") || parse.Fits("const", "c", "=", "1", ";// x") {
		t.Error("other gaps fit")
	}
}

// G4: tokens that are no source together, and of too many levels.
func TestFitsOfMany(t *testing.T) {
	word := strings.Repeat("w", 32)
	quoted := `"` + strings.Repeat("p", 4096) + `"`
	var l []string
	for range 15 {
		l = append(l, "include", quoted, "as", "a", ";")
	}
	size := len(strings.Join(l, " "))
	rest := 65536 - size - len(" include  as a ;")
	l = append(l, "include", `"`+strings.Repeat("p", rest-2)+`"`, "as", "a", ";")
	if n := len(strings.Join(l, " ")); n != 65536 || !parse.Fits(l...) {
		t.Error("a source of", n, "bytes does not fit")
	}
	more := slices.Clone(l)
	more[len(l)-2] = "ab"
	if n := len(strings.Join(more, " ")); n != 65537 || parse.Fits(more...) {
		t.Error("a source of", n, "bytes fits")
	}
	if parse.Fits(slices.Concat(l, l)...) || parse.Fits(slices.Repeat([]string{word}, 1<<20)...) || parse.Fits(slices.Repeat([]string{"include", quoted, "as", "a", ";"}, 1<<17)...) {
		t.Error("many tokens fit")
	}
	if parse.Fits(strings.Repeat(" ", 65537)) || parse.Fits(`"`+strings.Repeat("a", 70000)+`"`) {
		t.Error("long texts fit")
	}
	for n, want := range map[int]bool{64: true, 65: false} {
		if parse.Fits(slices.Concat([]string{"const", "c", "="}, slices.Repeat([]string{"-"}, n), []string{"1", ";"})...) != want {
			t.Error(n, "levels")
		}
	}
}

// G4 at tokens of any kind.
func TestRandomFits(t *testing.T) {
	r := rand.New(rand.NewPCG(14, 9))
	right := 0
	for range 10000 {
		l := randomTokens(r, "Module")
		if len(l) > 0 && r.IntN(10) == 0 {
			l[r.IntN(len(l))] += one(r, []string{" ", "a", "=", "//", ";", "\"", "+"})
		}
		got := parse.Fits(l...)
		if want := slowFits(l); got != want {
			t.Fatalf("Fits(%q): %v", l, got)
		}
		if _, f := parse.Module(strings.Join(l, " "), len(l)); got && f != (api.Fault{}) {
			t.Fatalf("Fits(%q), but %v", l, f)
		}
		if got && len(l) > 0 {
			right++
		}
	}
	if right < 1000 {
		t.Error("too few that fit:", right)
	}
}
