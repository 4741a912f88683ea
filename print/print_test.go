package print_test

import (
	"strings"
	"testing"

	"treadle/api"
	"treadle/parse"
	"treadle/print"
)

// read is a source's tree.
func read(t *testing.T, src string) api.Module {
	t.Helper()
	m, f := parse.Module(src, 1<<20)
	if f != (api.Fault{}) {
		t.Fatalf("%q is no module: %v", src, f)
	}
	return m
}

func readExpr(t *testing.T, src string) api.Expr {
	t.Helper()
	e, f := parse.Expr(src, 1<<20)
	if f != (api.Fault{}) {
		t.Fatalf("%q is no expression: %v", src, f)
	}
	return e
}

// printed asks for all that is told of a module.
func printed(t *testing.T, m api.Module, laid, short string, levels int) {
	t.Helper()
	if s, e := print.Module(m); s != laid || e != api.OK {
		t.Errorf("Module: %q, %v, not %q", s, e, laid)
	}
	if s, e := print.Tight(m); s != short || e != api.OK {
		t.Errorf("Tight: %q, %v, not %q", s, e, short)
	}
	if n := print.Levels(m); n != levels {
		t.Errorf("Levels of %q: %d, not %d", short, n, levels)
	}
}

// printedExpr asks likewise for an expression, alone and within a constant.
func printedExpr(t *testing.T, e api.Expr, laid, short string, levels int) {
	t.Helper()
	if s, x := print.Expr(e); s != laid || x != api.OK {
		t.Errorf("Expr: %q, %v, not %q", s, x, laid)
	}
	printed(t, constant(e), "const c = "+laid+";\n", "const c="+short+";", levels)
}

// P15.1: the laid-out form and the short one, of each thing alone and of things beside one another.
func TestForms(t *testing.T) {
	for _, x := range []struct {
		src, laid, short string
		levels           int
	}{
		{"", "", "", 0},
		{" // nothing\n", "", "", 0},
		{`include"a.m"as a ;`, "include \"a.m\" as a;\n", `include"a.m"as a;`, 0},
		{`include""as a;include"\n\x0a\x7f\x41"as a;`, "include \"\" as a;\ninclude \"\\n\\n\\x7fA\" as a;\n", `include""as a;include"\n\n\x7fA"as a;`, 0},
		{"const c=1;", "const c = 1;\n", "const c=1;", 0},
		{"const c=1;export const d=c;", "const c = 1;\nexport const d = c;\n", "const c=1;export const d=c;", 0},
		{"func f(){}", "func f() {\n}\n", "func f(){}", 1},
		{"func f(){}export func g(){}func f(){}", "func f() {\n}\n\nexport func g() {\n}\n\nfunc f() {\n}\n", "func f(){}export func g(){}func f(){}", 1},
		{"func f(a:int,b:bool,c:text):text{}", "func f(a: int, b: bool, c: text): text {\n}\n", "func f(a:int,b:bool,c:text):text{}", 1},
		{"func f():int{} func g(a:int):bool{}", "func f(): int {\n}\n\nfunc g(a: int): bool {\n}\n", "func f():int{}func g(a:int):bool{}", 1},
		{`include "a" as a; const c = 1; const d = 2;`, "include \"a\" as a;\n\nconst c = 1;\nconst d = 2;\n", `include"a"as a;const c=1;const d=2;`, 0},
		{`include "a" as a; include "b" as b; func f() {}`, "include \"a\" as a;\ninclude \"b\" as b;\n\nfunc f() {\n}\n", `include"a"as a;include"b"as b;func f(){}`, 1},
		{"func f() {} const c = 1; func g() {} const d = 2;", "const c = 1;\nconst d = 2;\n\nfunc f() {\n}\n\nfunc g() {\n}\n", "const c=1;const d=2;func f(){}func g(){}", 1},
		{`include "x" as x; export func f(): text { } const a = 1;`, "include \"x\" as x;\n\nconst a = 1;\n\nexport func f(): text {\n}\n", `include"x"as x;const a=1;export func f():text{}`, 1},
	} {
		printed(t, read(t, x.src), x.laid, x.short, x.levels)
	}
	printed(t, api.Module{}, "", "", 0)
}

// P15.1: each kind of statement, and an else of each kind.
func TestStatements(t *testing.T) {
	for _, x := range []struct {
		src    string
		laid   string // the lines of the body, without the byte 9 that each has
		short  string
		levels int
	}{
		{"var a=1;", "var a = 1;", "var a=1;", 1},
		{"a=-1;", "a = -1;", "a=-1;", 2},
		{"return;", "return;", "return;", 1},
		{"return 1;", "return 1;", "return 1;", 1},
		{"return-1;", "return -1;", "return-1;", 2},
		{`return"a";`, `return "a";`, `return"a";`, 1},
		{"return(a);", "return a;", "return a;", 1},
		{"print a.b;", "print a.b;", "print a.b;", 1},
		{"print!true;", "print !true;", "print!true;", 2},
		{`print("a");`, `print "a";`, `print"a";`, 1},
		{"f();", "f();", "f();", 2},
		{"a.f(1,b);", "a.f(1, b);", "a.f(1,b);", 2},
		{"while a{}", "while a {\n}", "while a{}", 2},
		{"while(a){f();}", "while a {\n\tf();\n}", "while a{f();}", 3},
		{"while-a{}", "while -a {\n}", "while-a{}", 2},
		{"if a{}", "if a {\n}", "if a{}", 2},
		{"if !a{return;}", "if !a {\n\treturn;\n}", "if!a{return;}", 2},
		{"if a{}else{}", "if a {\n} else {\n}", "if a{}else{}", 2},
		{"if a{}else{return;}", "if a {\n} else {\n\treturn;\n}", "if a{}else{return;}", 2},
		{"if a{}else if b{}", "if a {\n} else if b {\n}", "if a{}else if b{}", 2},
		{"if a{}else{if b{}}", "if a {\n} else if b {\n}", "if a{}else if b{}", 2},
		{"if a{}else{if b{}else{if c{}else{}}}", "if a {\n} else if b {\n} else if c {\n} else {\n}", "if a{}else if b{}else if c{}else{}", 2},
		{"if a{}else{if b{} return;}", "if a {\n} else {\n\tif b {\n\t}\n\treturn;\n}", "if a{}else{if b{}return;}", 3},
		{"if a{}else{if b{}if c{}}", "if a {\n} else {\n\tif b {\n\t}\n\tif c {\n\t}\n}", "if a{}else{if b{}if c{}}", 3},
		{"if a{}else{return;if b{}}", "if a {\n} else {\n\treturn;\n\tif b {\n\t}\n}", "if a{}else{return;if b{}}", 3},
		{"if a{}else{while b{}}", "if a {\n} else {\n\twhile b {\n\t}\n}", "if a{}else{while b{}}", 3},
		{"if a{if b{}}else{}", "if a {\n\tif b {\n\t}\n} else {\n}", "if a{if b{}}else{}", 3},
		{"if a{}if b{}", "if a {\n}\nif b {\n}", "if a{}if b{}", 2},
		{"while a{while b{while c{f();}}g();}", "while a {\n\twhile b {\n\t\twhile c {\n\t\t\tf();\n\t\t}\n\t}\n\tg();\n}", "while a{while b{while c{f();}}g();}", 5},
		{"return;return;", "return;\nreturn;", "return;return;", 1},
	} {
		laid := "func f() {\n\t" + strings.ReplaceAll(x.laid, "\n", "\n\t") + "\n}\n"
		printed(t, read(t, "func f() {"+x.src+"}"), laid, "func f(){"+x.short+"}", x.levels)
	}
}

// P15.1: each kind of expression, and brackets around none that can do without.
func TestExpressions(t *testing.T) {
	for _, x := range []struct {
		src, laid string // in the short form no blanks are left
		levels    int
	}{
		{"0", "0", 0},
		{"9223372036854775807", "9223372036854775807", 0},
		{"true", "true", 0},
		{"((false))", "false", 0},
		{`"\x41\x0a\"\\"`, `"A\n\"\\"`, 0},
		{"a", "a", 0},
		{"a . b", "a.b", 0},
		{"f ( )", "f()", 1},
		{"a.f((1),(b),f(-1))", "a.f(1, b, f(-1))", 3},
		{"- 1", "-1", 1},
		{"-(-(!(#a)))", "--!#a", 4},
		{"-(a.f(b))", "-a.f(b)", 2},
		{"-(a)+b", "-a + b", 1},
		{"-(a+b)", "-(a + b)", 2},
		{"!(a&&b)", "!(a && b)", 2},
		{"#(x++y)+1", "#(x ++ y) + 1", 2},
		{"-((a*b)*c)", "-(a * b * c)", 2},
		{"a*(-b)", "a * -b", 1},
		{"a-(-b)", "a - -b", 1},
		{"(a-(b-c))*d", "(a - (b - c)) * d", 2},
		{"(a-b)-c", "a - b - c", 0},
		{"((a||b)&&c)==d", "((a || b) && c) == d", 2},
		{"a||(b&&(c==(d+(e*f))))", "a || b && c == d + e * f", 0},
		{"(((a*b)+c)==d)&&e||f", "a * b + c == d && e || f", 0},
		{"(a<b)==c", "(a < b) == c", 1},
		{"a<(b==c)", "a < (b == c)", 1},
		{"(a<b)==(c<d)", "(a < b) == (c < d)", 1},
		{"f((a+b),(c||d))", "f(a + b, c || d)", 1},
	} {
		printedExpr(t, readExpr(t, x.src), x.laid, strings.ReplaceAll(x.laid, " ", ""), x.levels)
	}
	printedExpr(t, text(" a  b "), `" a  b "`, `" a  b "`, 0)
}

// lines are the operators between two, those of one line of the grammar together, the weakest first.
var lines = [][]api.Op{
	{api.OpOr}, {api.OpAnd}, {api.OpEq, api.OpNe, api.OpLt, api.OpLe, api.OpGt, api.OpGe},
	{api.OpAdd, api.OpSub, api.OpJoin}, {api.OpMul, api.OpDiv, api.OpRem},
}

// P15.1: operators of one line and of two, on both sides of one another, and behind a sign.
func TestBrackets(t *testing.T) {
	a, b, c := name("a"), name("b"), name("c")
	bracketed := func(s string, is bool) (string, int) {
		if is {
			return "(" + s + ")", 1
		}
		return s, 0
	}
	for i, line := range lines {
		for _, op := range line {
			sign := " " + opTexts[op] + " "
			for ahead := api.OpNeg; ahead <= api.OpLen; ahead++ {
				s := opTexts[ahead] + "(a" + sign + "b)"
				printedExpr(t, unary(ahead, binary(op, a, b)), s, strings.ReplaceAll(s, " ", ""), 2)
				s = opTexts[ahead] + "a" + sign + opTexts[ahead] + "b"
				printedExpr(t, binary(op, unary(ahead, a), unary(ahead, b)), s, strings.ReplaceAll(s, " ", ""), 1)
			}
			for j, other := range lines {
				for _, inner := range other {
					s, n := bracketed("a "+opTexts[inner]+" b", j < i || j == i && i == 2)
					s += sign + "c"
					printedExpr(t, binary(op, binary(inner, a, b), c), s, strings.ReplaceAll(s, " ", ""), n)
					s, n = bracketed("b "+opTexts[inner]+" c", j <= i)
					s = "a" + sign + s
					printedExpr(t, binary(op, a, binary(inner, b, c)), s, strings.ReplaceAll(s, " ", ""), n)
				}
			}
		}
	}
}

// The chapter's examples.
func TestExamples(t *testing.T) {
	const first = "func f(a:int){if(a<1){return;}else if a==(2){print-(-a);}g();}"
	const laid = "func f(a: int) {\n\tif a < 1 {\n\t\treturn;\n\t} else if a == 2 {\n\t\tprint --a;\n\t}\n\tg();\n}\n"
	if s, f := print.Format(first); s != laid || f != (api.Fault{}) {
		t.Errorf("%q %v", s, f)
	}
	printed(t, read(t, first), laid, "func f(a:int){if a<1{return;}else if a==2{print--a;}g();}", 4)
	for _, s := range []string{"(a - (b - c)) * d", "a - b - c", "!(a && b)", "#(x ++ y) + 1"} {
		if got, e := print.Expr(readExpr(t, s)); got != s || e != api.OK {
			t.Errorf("%q: %q %v", s, got, e)
		}
	}
	if s, e := print.Tight(read(t, "export const c = 1 + 2;")); s != "export const c=1+2;" || e != api.OK {
		t.Error(s, e)
	}
	if s, e := print.Value(api.Value{Type: api.TypeInt, Int: -1}); s != "" || e != api.ErrForm {
		t.Error(s, e)
	}
	if s, e := print.Module(function(api.Stmt{Kind: api.StmtDo, Expr: name("a")})); s != "" || e != api.ErrForm {
		t.Error(s, e)
	}
	if n := print.Levels(api.Module{}); n != 0 {
		t.Error(n)
	}
}

// P15.1, P15.3: modules of any kind have the forms that the chapter's words lead to.
func TestRandomModules(t *testing.T) {
	r := newMaker(1)
	for range 2000 {
		m := r.module(1 + r.IntN(6))
		laid := slowLaid(m)
		printed(t, m, laid, slowTight(m), slowLevels(tokensOf(m)))
		if s, f := print.Format(r.scatter(m)); s != laid || f != (api.Fault{}) {
			t.Fatalf("Format: %q, %v, not %q", s, f, laid)
		}
		e := r.expr(r.IntN(7))
		if s, x := print.Expr(e); s != slowExpr(e) || x != api.OK {
			t.Fatalf("Expr: %q, %v, not %q", s, x, slowExpr(e))
		}
		if t.Failed() {
			t.FailNow()
		}
	}
}

// P15.3: the fault of a text is layer 14's.
func TestFormatOfFaults(t *testing.T) {
	for src, want := range map[string]api.Fault{
		"const b = 1; func f(): text { } include": {Why: api.ErrSyntax, At: 32},
		"const c = 1 +;":                             {Why: api.ErrSyntax, At: 13},
		"const c = 08;":                              {Why: api.ErrNumber, At: 10},
		"const c = 1; @":                             {Why: api.ErrByte, At: 13},
		"const c = \"a":                              {Why: api.ErrText, At: 10},
		"const " + strings.Repeat("w", 33):           {Why: api.ErrWord, At: 6},
		"const c = " + strings.Repeat("(", 65) + "1": {Why: api.ErrNested, At: 74},
		"const c = 1":                                {Why: api.ErrSyntax, At: 11},
		strings.Repeat(" ", api.MaxSource+1):         {Why: api.ErrLong},
		strings.Repeat("@", api.MaxSource+1):         {Why: api.ErrLong},
		strings.Repeat("c ", api.MaxSource/2):        {Why: api.ErrSyntax},
		strings.Repeat(" ", api.MaxSource):           {},
		"//" + strings.Repeat("@", 60000) + "\n":     {},
	} {
		s, f := print.Format(src)
		if s != "" || f != want {
			t.Errorf("Format(%.50q): %q, %v, not %v", src, s, f, want)
		}
		if _, g := parse.Module(src, api.MaxFuel); g != f {
			t.Errorf("%.50q: layer 14 says %v", src, g)
		}
	}
	r := newMaker(2)
	faults := 0
	for range 3000 {
		b := []byte(r.scatter(r.module(4)) + " ")
		b[r.IntN(len(b))] = "@;(} 1a"[r.IntN(7)]
		src := string(b)
		m, want := parse.Module(src, api.MaxFuel)
		laid := ""
		if want == (api.Fault{}) {
			laid = slowLaid(m)
		} else {
			faults++
		}
		if s, f := print.Format(src); s != laid || f != want {
			t.Fatalf("Format(%q): %q, %v, not %q, %v", src, s, f, laid, want)
		}
	}
	if faults < 500 {
		t.Error("too few faults:", faults)
	}
}
