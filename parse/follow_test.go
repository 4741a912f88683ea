package parse_test

import (
	"math/rand/v2"
	"slices"
	"strings"
	"testing"

	"treadle/api"
	"treadle/lex"
	"treadle/parse"
	"treadle/scan"
)

// check holds all that may be asked of a source against the slow answers, with some fuels.
func check(t *testing.T, src string, fuels ...int) {
	t.Helper()
	want, why, least := slowModule(src, 1<<20)
	if n, f := parse.Fuel(src); n != least || f != why {
		t.Fatalf("Fuel(%q): %d, %v, not %d, %v", src, n, f, least, why)
	}
	for _, fuel := range append(fuels, least-1, least, 1<<20) {
		m, f := parse.Module(src, fuel)
		w, g := want, why
		if fuel < least {
			w, g, _ = slowModule(src, fuel)
		}
		if f != g || !equal(m, w) {
			t.Fatalf("Module(%q, %d): %v, %v, not %v, %v", src, fuel, m, f, w, g)
		}
		checkScan(t, src, m, f)
		if f == (api.Fault{}) && !parse.Right(m) {
			t.Fatalf("Right(Module(%q))", src)
		}
	}
}

func checkExpr(t *testing.T, src string, fuel int) {
	t.Helper()
	e, f := parse.Expr(src, fuel)
	if want, why := slowExpr(src, fuel); f != why || !equal(e, want) {
		t.Fatalf("Expr(%q, %d): %v, %v, not %v, %v", src, fuel, e, f, want, why)
	}
	if f == (api.Fault{}) && !parse.RightExpr(e) {
		t.Fatalf("RightExpr(Expr(%q))", src)
	}
}

// checkScan is P13.5: what Module told of a source, with whatever fuel, and what Includes tells.
func checkScan(t *testing.T, src string, m api.Module, f api.Fault) {
	t.Helper()
	l, g := scan.Includes(src)
	if f == (api.Fault{}) && (g != f || !slices.Equal(l, m.Includes)) {
		t.Fatalf("%q: the includes are %v, %v, not %v", src, l, g, m.Includes)
	}
	if g == (api.Fault{}) || f.Why == api.ErrFuel && f.At <= g.At {
		return
	}
	if g.Why == api.ErrInclude {
		g.Why = api.ErrSyntax
	}
	if f != g {
		t.Fatalf("%q: the fault is %v, of the includes %v", src, f, g)
	}
}

// samples have each kind of statement and of expression.
var samples = []string{
	example,
	`include "a" as a ; include "b" as b ; const c = a . d ;`,
	"export const c = - ( a + 1 ) ; const d = true ;",
	"func f ( ) { } export func g ( a : int , b : bool ) : text { }",
	`func f ( ) { var a = "x" ; a = ! a ; }`,
	"func f ( ) { if a { b ( ) ; } else if c { return ; } else { return # d ; } }",
	"func f ( ) { if a { } if a . b { } else { } }",
	"func f ( ) { while a < b && c { print a . b ( 1 , c ( ) ) ; } a . b ( ) ; }",
}

// G1, G2, P13.5: each token of a source is another one, missing, none, doubled, or the last.
func TestTurnedTokens(t *testing.T) {
	for _, src := range samples {
		var l []string
		for _, x := range tokensOf(src) {
			l = append(l, src[x.From:x.To])
		}
		check(t, src)
		for i := range l {
			ahead, behind := strings.Join(l[:i], " ")+" ", " "+strings.Join(l[i+1:], " ")
			for _, s := range everyToken {
				check(t, ahead+s+behind, i, i+1)
				check(t, ahead+s+" "+l[i]+behind)
			}
			for s := range noTokens {
				check(t, ahead+s+behind, i, i+1)
			}
			check(t, ahead+behind, i)
			check(t, ahead, i)
		}
	}
}

// G1: all modules of a few tokens, and all that begin so and then go wrong.
func TestFewTokens(t *testing.T) {
	grow(t, "", "Module", []string{"include", `"a"`, "as", "b", ";", "export", "const", "func", "=", "1", "@"}, 7)
	grow(t, "func f", "Module", []string{"(", "a", ":", "int", "text", ",", ")", "{", "}", "1"}, 8)
	grow(t, "func f ( ) {", "Module", []string{"a", "=", "1", ";", ".", "(", ")", ",", "}", "return", "print", "var", "@"}, 5)
	grow(t, "func f ( ) {", "Module", []string{"a", "if", "while", "else", "{", "}", "return", ";"}, 8)
}

// G1: all expressions of a few tokens, likewise.
func TestFewOperators(t *testing.T) {
	grow(t, "", "Expr", []string{"a", "-", "||", "&&", "<", "*", "!", "(", ")"}, 6)
	grow(t, "", "Expr", []string{"a", "1", "-", "==", "+", ".", ",", "(", ")"}, 6)
	grow(t, "", "Expr", []string{"a", "++", "!=", "/", "#", `"a"`, "true", ";"}, 5)
}

// grow checks every row of tokens behind those that are right; one that is wrong already has no longer ones.
func grow(t *testing.T, src, rule string, tokens []string, n int) {
	t.Helper()
	if rule == "Module" {
		check(t, src)
	} else {
		checkExpr(t, src, 99)
		checkExpr(t, src, len(strings.Fields(src))-1)
	}
	if f, _ := slowFault(rule, src, 99); n == 0 || f != (api.Fault{}) && f.At < len(src) {
		return
	}
	for _, s := range tokens {
		grow(t, strings.TrimPrefix(src+" "+s, " "), rule, tokens, n-1)
	}
}

// G1, G2, G5, P13.5: sources of any kind.
func TestRandomSources(t *testing.T) {
	r := rand.New(rand.NewPCG(14, 1))
	right, wrong := 0, 0
	for range 5000 {
		src := spaced(r, randomTokens(r, "Module"))
		if r.IntN(10) == 0 {
			b := []byte(src)
			b[r.IntN(len(b))] = byte(r.IntN(256))
			src = string(b)
		}
		check(t, src, -1, 0, r.IntN(40))
		if n, f := parse.Fuel(src); f != (api.Fault{}) {
			wrong++
		} else if n > 0 {
			right++
		}
		checkExpr(t, spaced(r, randomTokens(r, "Expr")), r.IntN(60))
	}
	if right < 1000 || wrong < 1000 {
		t.Error("too few of a kind:", right, wrong)
	}
	for range 20000 {
		b := make([]byte, r.IntN(20))
		for i := range b {
			b[i] = byte(r.IntN(256))
		}
		check(t, string(b))
		checkExpr(t, string(b), r.IntN(5))
	}
}

// P13.5: a module whose includes have a fault, and what scan says of it.
func TestFaultyIncludes(t *testing.T) {
	for src, want := range map[string]api.Fault{
		"include":                         fault(api.ErrInclude, 7),
		`include "a" b;`:                  fault(api.ErrInclude, 12),
		`include "a as b;`:                fault(api.ErrText, 8),
		`include "a" as if;`:              fault(api.ErrInclude, 15),
		`include "a" as a; include 08;`:   fault(api.ErrNumber, 26),
		`include "a" as a; include "b" 1`: fault(api.ErrInclude, 30),
		strings.Repeat(" ", 65537):        fault(api.ErrLong, 0),
	} {
		if _, f := scan.Includes(src); f != want {
			t.Errorf("Includes(%.60q): %v, not %v", src, f, want)
		}
		if want.Why == api.ErrInclude {
			want.Why = api.ErrSyntax
		}
		refused(t, src, 99, want.Why, want.At)
		for fuel := -1; fuel < 12; fuel++ {
			m, f := parse.Module(src, fuel)
			checkScan(t, src, m, f)
		}
	}
	// What comes behind the includes, scan does not look at.
	for _, src := range []string{`include "a" as a; x`, `include "a" as a; @`, `include "a" as a; const c = 1; include "b" as b;`} {
		if l, f := scan.Includes(src); len(l) != 1 || f != (api.Fault{}) {
			t.Error(src, l, f)
		}
		if _, f := parse.Module(src, 99); f == (api.Fault{}) {
			t.Error(src)
		}
	}
}

// P13.5 at includes of any kind, with every fuel.
func TestRandomIncludes(t *testing.T) {
	r := rand.New(rand.NewPCG(14, 2))
	both := 0
	for range 5000 {
		var l []string
		for range r.IntN(4) {
			l = append(l, "include", one(r, textTexts), "as", one(r, wordTexts), ";")
		}
		l = append(l, "include", one(r, textTexts), "as", one(r, wordTexts), ";")
		if r.IntN(4) > 0 {
			l[r.IntN(len(l))] = anyToken(r)
		}
		src := spaced(r, append(l, theGrammar.derive(r, &node{what: 'r', text: "Module"}, 10)...))
		if _, f := scan.Includes(src); f != (api.Fault{}) {
			both++
		}
		for fuel := -1; fuel < 25; fuel++ {
			m, f := parse.Module(src, fuel)
			checkScan(t, src, m, f)
		}
		m, f := parse.Module(src, 1<<20)
		checkScan(t, src, m, f)
	}
	if both < 1000 {
		t.Error("too few faults:", both)
	}
}

// G6: with Fuel's fuel or more the answer is always the same, with less it is ErrFuel, at the token of that number.
func TestFuelIsTheTexts(t *testing.T) {
	r := rand.New(rand.NewPCG(14, 3))
	for range 1500 {
		src := spaced(r, randomTokens(r, "Module"))
		n, g := parse.Fuel(src)
		whole, f := parse.Module(src, 1<<20)
		if f != g {
			t.Fatalf("Fuel(%q): %v, not %v", src, g, f)
		}
		at := 0
		for fuel := range n {
			x, _ := lex.Next(src, at)
			refused(t, src, fuel, api.ErrFuel, x.From)
			at = x.To
		}
		for _, fuel := range []int{n, n + 1, n + 1000} {
			if m, f := parse.Module(src, fuel); f != g || !equal(m, whole) {
				t.Fatalf("Module(%q, %d): %v, %v, not %v", src, fuel, m, f, g)
			}
		}
	}
}

// G7: with other gaps, which each begin with a blank, a source has the same tree, places aside, and the same Fuel.
func TestGapsCountForNothing(t *testing.T) {
	r := rand.New(rand.NewPCG(14, 4))
	right := 0
	for range 3000 {
		l := slices.DeleteFunc(randomTokens(r, "Module"), func(s string) bool { return noTokens[s] != api.OK })
		src := strings.Join(l, " ")
		m, f := parse.Module(src, 1<<20)
		n, _ := parse.Fuel(src)
		for range 3 {
			other := spaced(r, l)
			k, g := parse.Fuel(other)
			if k != n || g.Why != f.Why {
				t.Fatalf("Fuel(%q): %d, %v; of %q: %d, %v", other, k, g, src, n, f)
			}
			if x, _ := parse.Module(other, n); !alike(x, m) {
				t.Fatalf("%q and %q have two trees", other, src)
			}
		}
		if f == (api.Fault{}) {
			right++
		}
	}
	if right < 500 {
		t.Error("too few that are right:", right)
	}
}

// G8: what stands behind a token that is ErrSyntax has no part.
func TestNothingBehindTheWrongToken(t *testing.T) {
	r := rand.New(rand.NewPCG(14, 5))
	kept := 0
	for range 8000 {
		src := spaced(r, randomTokens(r, "Module"))
		_, f := parse.Module(src, 1<<20)
		if f.Why != api.ErrSyntax || f.At == len(src) {
			continue
		}
		kept++
		x, _ := lex.Next(src, f.At)
		for _, behind := range []string{"", spaced(r, randomTokens(r, "Module")), "@", `"`, strings.Repeat("(", 99)} {
			other := src[:x.To] + one(r, []string{" ", "\n", "\t", "\r"}) + behind
			refused(t, other, 1<<20, api.ErrSyntax, f.At)
		}
	}
	if kept < 1000 {
		t.Error("too few faults:", kept)
	}
}

// G8: other tokens in the place of the one that lacks fuel, and of those behind it, leave it.
func TestNothingBehindTheFuel(t *testing.T) {
	r := rand.New(rand.NewPCG(14, 6))
	for range 2000 {
		src := spaced(r, randomTokens(r, "Module"))
		n, _ := parse.Fuel(src)
		if n == 0 {
			continue
		}
		fuel := r.IntN(n)
		_, f := parse.Module(src, fuel)
		behind := " " + spaced(r, randomTokens(r, "Stmt"))
		for _, s := range everyToken {
			refused(t, src[:f.At]+s+behind, fuel, api.ErrFuel, f.At)
		}
		// None begins there: it is another thing that is wrong, or none.
		refused(t, src[:f.At]+"@", fuel, api.ErrByte, f.At)
		if _, g := parse.Module(src[:f.At], fuel); g.Why == api.ErrFuel {
			t.Fatalf("Module(%q, %d): %v", src[:f.At], fuel, g)
		}
	}
}
