package print_test

import (
	"strings"
	"testing"

	"treadle/api"
	"treadle/parse"
	"treadle/print"
)

// answers asks for both forms of a module; no text comes beside an error.
func answers(t *testing.T, m api.Module, laid, short api.Errno) {
	t.Helper()
	s, e := print.Module(m)
	if e != laid || (e != api.OK) != (s == "") {
		t.Errorf("Module: %d bytes, %v, not %v", len(s), e, laid)
	}
	s, e = print.Tight(m)
	if e != short || (e != api.OK) != (s == "") {
		t.Errorf("Tight: %d bytes, %v, not %v", len(s), e, short)
	}
}

func answersExpr(t *testing.T, e api.Expr, want api.Errno) {
	t.Helper()
	if s, x := print.Expr(e); x != want || (x != api.OK) != (s == "") {
		t.Errorf("Expr: %d bytes, %v, not %v", len(s), x, want)
	}
}

// joined is an expression of many texts with so many bytes in all, and these as they are written.
func joined(bytes int) (api.Expr, []string) {
	e, l := text(""), []string{`""`}
	for bytes > 0 {
		s := strings.Repeat("x", min(bytes, 4000))
		e, l = binary(api.OpJoin, e, text(s)), append(l, `"`+s+`"`)
		bytes -= len(s)
	}
	return e, l
}

// sized is the expression joined that has, with so much between its texts, so many bytes; and its text.
func sized(bytes int, between string) (api.Expr, string) {
	room := bytes
	for {
		e, l := joined(room)
		s := strings.Join(l, between)
		if len(s) == bytes {
			return e, s
		}
		room -= len(s) - bytes
	}
}

// P15.1, P15.3: a form of MaxSource bytes, and one of one more, in each form; and an expression.
func TestLongForms(t *testing.T) {
	const laid, short = " ++ ", "++"
	for more := range 3 {
		want := api.OK
		if more > 0 {
			want = api.ErrLong
		}
		e, s := sized(api.MaxSource-len("const c = ;\n")+more, laid)
		answers(t, constant(e), want, api.OK)
		source, formatted := "const c="+strings.ReplaceAll(s, laid, short)+";", "const c = "+s+";\n"
		if more > 0 {
			formatted = ""
		}
		if got, f := print.Format(source); got != formatted || f != (api.Fault{Why: want}) {
			t.Errorf("Format: %d bytes, %v, not %v", len(got), f, want)
		}
		e, s = sized(api.MaxSource-len("const c=;")+more, short)
		answers(t, constant(e), api.ErrLong, want)
		if got, f := print.Format("const c=" + s + ";"); got != "" || f != (api.Fault{Why: api.ErrLong}) {
			t.Errorf("Format: %d bytes, %v", len(got), f)
		}
		e, s = sized(api.MaxSource+more, laid)
		if answersExpr(t, e, want); more == 0 {
			got, _ := print.Expr(e)
			short, _ := print.Tight(constant(e))
			if got != s || short != "const c="+strings.ReplaceAll(s, " ", "")+";" {
				t.Error("another text")
			}
		}
	}
}

// P15.1: each byte of a form counts: one more of each thing is the one that is too many.
func TestLongLists(t *testing.T) {
	for what, more := range map[string]func(m *api.Module){
		"a statement": func(m *api.Module) {
			body := &m.Funcs[0].Body[0].Body
			*body = append(*body, api.Stmt{Kind: api.StmtReturn})
		},
		"a function": func(m *api.Module) { m.Funcs = append(m.Funcs, api.Func{Name: "f"}) },
		"a parameter": func(m *api.Module) {
			m.Funcs[0].Params = append(m.Funcs[0].Params, api.Param{Name: "a", Type: api.TypeInt})
		},
		"a constant": func(m *api.Module) { m.Consts = append(m.Consts, api.Const{Name: "c", Expr: number(1)}) },
		"an include": func(m *api.Module) { m.Includes = append(m.Includes, api.Include{Name: "a"}) },
	} {
		filled := func(n int) api.Module {
			m := function(api.Stmt{Kind: api.StmtWhile, Expr: truth(true)})
			for range n {
				more(&m)
			}
			return m
		}
		laid := mostThatFit(func(n int) int { return len(slowLaid(filled(n))) })
		short := mostThatFit(func(n int) int { return len(slowTight(filled(n))) })
		if laid >= short {
			t.Error(what, laid, short)
		}
		answers(t, filled(laid), api.OK, api.OK)
		answers(t, filled(laid+1), api.ErrLong, api.OK)
		answers(t, filled(short), api.ErrLong, api.OK)
		answers(t, filled(short+1), api.ErrLong, api.ErrLong)
	}
}

// mostThatFit is the greatest n whose size is that of a source, where each from 2 on adds as much as the one ahead.
func mostThatFit(size func(n int) int) int {
	each := size(2) - size(1)
	return 1 + (api.MaxSource-size(1))/each
}

// P15.3: a source never lacks fuel, however many tokens it has.
func TestManyTokens(t *testing.T) {
	const n = (api.MaxSource - 20) / len("\tf();\n")
	want := "func f() {\n" + strings.Repeat("\tf();\n", n) + "}\n"
	if s, f := print.Format("func f(){" + strings.Repeat("f();", n) + "}"); s != want || f != (api.Fault{}) {
		t.Errorf("%d bytes, %v", len(s), f)
	}
	src := "func f(){" + strings.Repeat("f();", 16300)
	for end, why := range map[string]api.Errno{"@": api.ErrByte, "": api.ErrSyntax, ")": api.ErrSyntax, "} 08": api.ErrNumber} {
		at := len(src) + len(end) - len(strings.TrimPrefix(end, "} "))
		if s, f := print.Format(src + end); s != "" || f != (api.Fault{Why: why, At: at}) {
			t.Errorf("%q: %d bytes, %v", end, len(s), f)
		}
	}
	if s, f := print.Format(src + "}"); s != "" || f != (api.Fault{Why: api.ErrLong}) {
		t.Errorf("%d bytes, %v", len(s), f)
	}
}

// deep is n of the same thing, each in the next one, around the innermost one.
func deep[T any](n int, x T, around func(T) T) T {
	for range n {
		x = around(x)
	}
	return x
}

// P15.1: MaxNest levels and one more, of each thing that opens one, in each form; and what opens none.
func TestDeepExpressions(t *testing.T) {
	one := number(1)
	for what, around := range map[string]func(api.Expr) api.Expr{
		"minus":             func(e api.Expr) api.Expr { return unary(api.OpNeg, e) },
		"not":               func(e api.Expr) api.Expr { return unary(api.OpNot, e) },
		"length":            func(e api.Expr) api.Expr { return unary(api.OpLen, e) },
		"calls":             func(e api.Expr) api.Expr { return call("", "f", e) },
		"calls of includes": func(e api.Expr) api.Expr { return call("a", "f", one, e, one) },
		"on the right":      func(e api.Expr) api.Expr { return binary(api.OpSub, one, e) },
		"on both sides":     func(e api.Expr) api.Expr { return binary(api.OpLt, e, one) },
	} {
		most := api.MaxNest
		if what == "on the right" || what == "on both sides" {
			most++ // the innermost one and the outermost one have no brackets around them
		}
		for _, n := range []int{0, 1, 2, most - 1, most, most + 1, most + 2, 2 * most} {
			e := deep(n, one, around)
			want, levels := api.OK, max(0, n-(most-api.MaxNest))
			if n > most {
				want = api.ErrNested
			}
			answersExpr(t, e, want)
			answers(t, constant(e), want, want)
			if got := print.Levels(constant(e)); got != levels {
				t.Errorf("%d %s: %d levels", n, what, got)
			}
		}
	}
	left := deep(5000, one, func(e api.Expr) api.Expr { return binary(api.OpSub, e, one) })
	answersExpr(t, left, api.OK)
	answers(t, constant(left), api.OK, api.OK)
	sum := deep(5000, one, func(e api.Expr) api.Expr { return binary(api.OpMul, e, unary(api.OpNeg, call("", "f"))) })
	if answersExpr(t, sum, api.OK); print.Levels(constant(sum)) != 2 || print.Levels(constant(left)) != 0 {
		t.Error("levels of many beside one another")
	}
}

// P15.1: likewise of statements, which stand in a function's block.
func TestDeepStatements(t *testing.T) {
	a := name("a")
	for what, around := range map[string]func([]api.Stmt) []api.Stmt{
		"whiles": func(l []api.Stmt) []api.Stmt { return []api.Stmt{{Kind: api.StmtWhile, Expr: a, Body: l}} },
		"ifs":    func(l []api.Stmt) []api.Stmt { return []api.Stmt{{Kind: api.StmtIf, Expr: a, Body: l}} },
		"elses": func(l []api.Stmt) []api.Stmt {
			return []api.Stmt{{Kind: api.StmtIf, Expr: a, HasElse: true, Else: append([]api.Stmt{{Kind: api.StmtReturn}}, l...)}}
		},
	} {
		for _, n := range []int{0, 1, 62, 63, 64, 65, 200} {
			want := api.OK
			if n > 63 {
				want = api.ErrNested
			}
			m := function(deep(n, nil, around)...)
			answers(t, m, want, want)
			if got := print.Levels(m); got != n+1 {
				t.Errorf("%d %s: %d levels", n, what, got)
			}
			// What stands innermost opens one more.
			for _, s := range []api.Stmt{{Kind: api.StmtDo, Expr: call("", "f")}, {Kind: api.StmtPrint, Expr: unary(api.OpNeg, a)}} {
				want := api.OK
				if n > 62 {
					want = api.ErrNested
				}
				m := function(deep(n, []api.Stmt{s}, around)...)
				answers(t, m, want, want)
				if got := print.Levels(m); got != n+2 {
					t.Errorf("%d %s around one more: %d levels", n, what, got)
				}
			}
		}
	}
	chain := deep(3000, nil, func(l []api.Stmt) []api.Stmt {
		return []api.Stmt{{Kind: api.StmtIf, Expr: a, HasElse: true, Else: l}}
	})
	answers(t, function(chain...), api.OK, api.OK)
	if n := print.Levels(function(chain...)); n != 2 {
		t.Error("else ifs:", n)
	}
	// What is open at most counts, wherever it stands.
	m := read(t, "const c = 1; const d = -(a + f(b)); const e = 2; func f() {} func g() { return; }")
	if n := print.Levels(m); n != 3 {
		t.Error("the deepest of many:", n)
	}
}

// P15.1, R2: of several errors the one that is named first.
func TestFirstError(t *testing.T) {
	long, _ := joined(api.MaxSource)
	nested := deep(65, number(1), func(e api.Expr) api.Expr { return unary(api.OpNeg, e) })
	both := func(e ...api.Expr) api.Module {
		var m api.Module
		for _, x := range e {
			m.Consts = append(m.Consts, api.Const{Name: "c", Expr: x})
		}
		return m
	}
	answers(t, both(long), api.ErrLong, api.ErrLong)
	answers(t, both(long, nested), api.ErrNested, api.ErrNested)
	answers(t, both(nested, long), api.ErrNested, api.ErrNested)
	answers(t, both(nested, number(-1)), api.ErrForm, api.ErrForm)
	answers(t, both(long, nested, api.Expr{}), api.ErrForm, api.ErrForm)
	answersExpr(t, call("", "f", long), api.ErrLong)
	answersExpr(t, call("", "f", long, nested), api.ErrNested)
	answersExpr(t, call("", "f", long, nested, api.Expr{}), api.ErrForm)
	if print.Levels(both(long, nested)) != 65 || print.Levels(both(long, nested, api.Expr{})) != 0 {
		t.Error("levels of what is long")
	}
}

// R1: trees of as many parts within one another as one likes.
func TestGreatTrees(t *testing.T) {
	const n = 65000
	one, a := number(1), name("a")
	up := deep(n, one, func(e api.Expr) api.Expr { return unary(api.OpNeg, e) })
	left := deep(n, one, func(e api.Expr) api.Expr { return binary(api.OpSub, e, one) })
	right := deep(n, one, func(e api.Expr) api.Expr { return binary(api.OpEq, one, e) })
	args := deep(n, one, func(e api.Expr) api.Expr { return call("a", "f", one, e) })
	block := deep(n, nil, func(l []api.Stmt) []api.Stmt { return []api.Stmt{{Kind: api.StmtWhile, Expr: a, Body: l}} })
	chain := deep(n, nil, func(l []api.Stmt) []api.Stmt {
		return []api.Stmt{{Kind: api.StmtIf, Expr: a, HasElse: true, Else: l}}
	})
	for i, x := range []struct {
		m      api.Module
		want   api.Errno
		levels int
	}{
		{constant(up), api.ErrNested, n}, {constant(left), api.ErrLong, 0}, {constant(right), api.ErrNested, n - 1}, {constant(args), api.ErrNested, n},
		{function(block...), api.ErrNested, n + 1}, {function(chain...), api.ErrLong, 2}, {api.Module{Includes: make([]api.Include, n)}, api.ErrForm, 0},
	} {
		answers(t, x.m, x.want, x.want)
		if got := print.Levels(x.m); got != x.levels {
			t.Errorf("tree %d: %d levels, not %d", i, got, x.levels)
		}
		if !print.Same(x.m, x.m) || print.Same(x.m, api.Module{}) {
			t.Errorf("tree %d: same", i)
		}
	}
	answersExpr(t, up, api.ErrNested)
	answersExpr(t, left, api.ErrLong)
	if !print.SameExpr(up, up) || print.SameExpr(up, left) || print.SameExpr(up, up.Kids[0]) {
		t.Error("same expressions")
	}
}

// P15.1: what layer 14 reads with all levels open is printed, brackets that are not needed aside.
func TestLevelsOfSources(t *testing.T) {
	for _, src := range []string{
		"const c = " + strings.Repeat("(", 64) + "1" + strings.Repeat(")", 64) + ";",
		"const c = " + strings.Repeat("-", 64) + "1;",
		"const c = " + strings.Repeat("1-(", 64) + "1" + strings.Repeat(")", 64) + ";",
		"func f() {" + strings.Repeat("while a{", 63) + strings.Repeat("}", 64),
		"func f() {" + strings.Repeat("if a{}else{", 63) + strings.Repeat("}", 64),
	} {
		m := read(t, src)
		if s, f := print.Format(src); s != slowLaid(m) || f != (api.Fault{}) {
			t.Errorf("%.30q: %v", src, f)
		}
		short, e := print.Tight(m)
		if back, f := parse.Module(short, 9999); e != api.OK || f != (api.Fault{}) || !alike(back, m) {
			t.Errorf("%.30q: %v %v", src, e, f)
		}
	}
}
