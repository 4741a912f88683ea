package parse_test

import (
	"math"
	"reflect"
	"strings"
	"testing"

	"treadle/api"
	"treadle/parse"
)

const example = `include "a.m" as a; export func f(x: int): int { return a.g(x) + 1; }`

func fault(why api.Errno, at int) api.Fault { return api.Fault{Why: why, At: at} }

func number(at int, n int64) api.Expr {
	return api.Expr{Kind: api.ExprLit, At: at, Value: api.Value{Type: api.TypeInt, Int: n}}
}

func truth(at int, b bool) api.Expr {
	return api.Expr{Kind: api.ExprLit, At: at, Value: api.Value{Type: api.TypeBool, Bool: b}}
}

func text(at int, s string) api.Expr {
	return api.Expr{Kind: api.ExprLit, At: at, Value: api.Value{Type: api.TypeText, Text: s}}
}

func name(at int, of, s string) api.Expr {
	return api.Expr{Kind: api.ExprName, At: at, Of: of, Name: s}
}

func call(at int, of, s string, kids ...api.Expr) api.Expr {
	return api.Expr{Kind: api.ExprCall, At: at, Of: of, Name: s, Kids: kids}
}

func unary(at int, op api.Op, kid api.Expr) api.Expr {
	return api.Expr{Kind: api.ExprUnary, At: at, Op: op, Kids: []api.Expr{kid}}
}

func binary(at int, op api.Op, left, right api.Expr) api.Expr {
	return api.Expr{Kind: api.ExprBinary, At: at, Op: op, Kids: []api.Expr{left, right}}
}

// equal tells whether two trees are the same, an empty list and none being one.
func equal[T any](a, b T) bool {
	return equalValues(reflect.ValueOf(a), reflect.ValueOf(b), true)
}

// alike tells whether they are, places aside.
func alike[T any](a, b T) bool {
	return equalValues(reflect.ValueOf(a), reflect.ValueOf(b), false)
}

func equalValues(a, b reflect.Value, places bool) bool {
	switch a.Kind() {
	case reflect.Struct:
		for i := range a.NumField() {
			if (places || a.Type().Field(i).Name != "At") && !equalValues(a.Field(i), b.Field(i), places) {
				return false
			}
		}
		return true
	case reflect.Slice:
		if a.Len() != b.Len() {
			return false
		}
		for i := range a.Len() {
			if !equalValues(a.Index(i), b.Index(i), places) {
				return false
			}
		}
		return true
	}
	return a.Equal(b)
}

// found asks for a module's tree, with just enough fuel.
func found(t *testing.T, src string, fuel int, want api.Module) {
	t.Helper()
	if m, f := parse.Module(src, fuel); f != (api.Fault{}) || !equal(m, want) {
		t.Errorf("Module(%.80q, %d): %v, %v, not %v", src, fuel, m, f, want)
	}
	if n, f := parse.Fuel(src); n != fuel || f != (api.Fault{}) {
		t.Errorf("Fuel(%.80q): %d, %v, not %d", src, n, f, fuel)
	}
}

// refused asks for a module's fault, beside which there is nothing.
func refused(t *testing.T, src string, fuel int, why api.Errno, at int) {
	t.Helper()
	if m, f := parse.Module(src, fuel); f != fault(why, at) || !equal(m, api.Module{}) {
		t.Errorf("Module(%.80q, %d): %v, %v, not %v", src, fuel, m, f, fault(why, at))
	}
}

func foundExpr(t *testing.T, src string, fuel int, want api.Expr) {
	t.Helper()
	if e, f := parse.Expr(src, fuel); f != (api.Fault{}) || !equal(e, want) {
		t.Errorf("Expr(%.80q, %d): %v, %v, not %v", src, fuel, e, f, want)
	}
}

func refusedExpr(t *testing.T, src string, fuel int, why api.Errno, at int) {
	t.Helper()
	if e, f := parse.Expr(src, fuel); f != fault(why, at) || !equal(e, api.Expr{}) {
		t.Errorf("Expr(%.80q, %d): %v, %v, not %v", src, fuel, e, f, fault(why, at))
	}
}

// G1, G2: the chapter's examples.
func TestExamples(t *testing.T) {
	found(t, example, 27, api.Module{
		Includes: []api.Include{{Path: "a.m", Name: "a", At: 0}},
		Funcs: []api.Func{{Name: "f", Export: true, At: 32, Params: []api.Param{{Name: "x", Type: api.TypeInt}}, Result: api.TypeInt, Body: []api.Stmt{
			{Kind: api.StmtReturn, At: 49, Expr: binary(63, api.OpAdd, call(56, "a", "g", name(60, "", "x")), number(65, 1))},
		}}},
	})
	refused(t, "const c = 1 +;", 99, api.ErrSyntax, 13)
	refused(t, "func f() { a.b = 1; }", 99, api.ErrSyntax, 15)
	refused(t, "const c = 08;", 99, api.ErrNumber, 10)
	refused(t, "const c = 08;", 3, api.ErrNumber, 10)
	refused(t, "const c = 8;", 3, api.ErrFuel, 10)
	found(t, "", 0, api.Module{})
	foundExpr(t, nested("(", 64, "1", ")"), 129, number(64, 1))
	refusedExpr(t, nested("(", 65, "1", ")"), 131, api.ErrNested, 64)
	foundExpr(t, "a - b - c", 5, binary(6, api.OpSub, binary(2, api.OpSub, name(0, "", "a"), name(4, "", "b")), name(8, "", "c")))
	foundExpr(t, "-1", 2, unary(0, api.OpNeg, number(1, 1)))
	refusedExpr(t, "a < b == c", 99, api.ErrSyntax, 6)
}

func nested(open string, n int, inner, shut string) string {
	return strings.Repeat(open, n) + inner + strings.Repeat(shut, n)
}

// G1: modules of nothing, of gaps, of includes, constants and functions in any order.
func TestModules(t *testing.T) {
	for _, src := range []string{"", " ", "\n\t\r ", "//", "// const c", "//\n"} {
		found(t, src, 0, api.Module{})
	}
	found(t, `include "" as a; include "a" as a;`, 10, api.Module{Includes: []api.Include{{Name: "a"}, {Path: "a", Name: "a", At: 17}}})
	found(t, "const a = 1; export const b = true;", 11, api.Module{Consts: []api.Const{{Name: "a", At: 6, Expr: number(10, 1)}, {Name: "b", Export: true, At: 26, Expr: truth(30, true)}}})
	found(t, "func f(){} export func f(){}", 13, api.Module{Funcs: []api.Func{{Name: "f", At: 5}, {Name: "f", Export: true, At: 23}}})
	found(t, "func f(){}const a=1;func g(){}const b=2;", 22, api.Module{
		Consts: []api.Const{{Name: "a", At: 16, Expr: number(18, 1)}, {Name: "b", At: 36, Expr: number(38, 2)}},
		Funcs:  []api.Func{{Name: "f", At: 5}, {Name: "g", At: 25}},
	})
	found(t, "func f(a: int, a: bool, c: text): bool { }", 19, api.Module{Funcs: []api.Func{{Name: "f", At: 5, Result: api.TypeBool, Params: []api.Param{{Name: "a", Type: api.TypeInt}, {Name: "a", Type: api.TypeBool}, {Name: "c", Type: api.TypeText}}}}})
	found(t, "func f(): int { } func f(): text { }", 16, api.Module{Funcs: []api.Func{{Name: "f", At: 5, Result: api.TypeInt}, {Name: "f", At: 23, Result: api.TypeText}}})
}

// G1: what is wrong with a module's own tokens.
func TestWrongModules(t *testing.T) {
	for src, want := range map[string]api.Fault{
		"x":                            fault(api.ErrSyntax, 0),
		"1":                            fault(api.ErrSyntax, 0),
		";":                            fault(api.ErrSyntax, 0),
		"export":                       fault(api.ErrSyntax, 6),
		"export export const a = 1;":   fault(api.ErrSyntax, 7),
		`export include "a" as a;`:     fault(api.ErrSyntax, 7),
		"export x":                     fault(api.ErrSyntax, 7),
		`const a = 1; include "" as a`: fault(api.ErrSyntax, 13),
		`func f() {} include "" as a`:  fault(api.ErrSyntax, 12),
		"const a = 1;;":                fault(api.ErrSyntax, 12),
		"func f() {};":                 fault(api.ErrSyntax, 11),
		"const a = 1 const":            fault(api.ErrSyntax, 12),
		"var a = 1;":                   fault(api.ErrSyntax, 0),
		"const if = 1;":                fault(api.ErrSyntax, 6),
		"const 1 = 1;":                 fault(api.ErrSyntax, 6),
		"const a == 1;":                fault(api.ErrSyntax, 8),
		"const a = ;":                  fault(api.ErrSyntax, 10),
		"const a.b = 1;":               fault(api.ErrSyntax, 7),
		"func":                         fault(api.ErrSyntax, 4),
		"func f":                       fault(api.ErrSyntax, 6),
		"func f {}":                    fault(api.ErrSyntax, 7),
		"func f(a) {}":                 fault(api.ErrSyntax, 8),
		"func f(a: a) {}":              fault(api.ErrSyntax, 10),
		"func f(a: int,) {}":           fault(api.ErrSyntax, 14),
		"func f(,) {}":                 fault(api.ErrSyntax, 7),
		"func f(a: int b: int) {}":     fault(api.ErrSyntax, 14),
		"func f(int: int) {}":          fault(api.ErrSyntax, 7),
		"func f(): {}":                 fault(api.ErrSyntax, 10),
		"func f() int {}":              fault(api.ErrSyntax, 9),
		"func f();":                    fault(api.ErrSyntax, 8),
		"func f() {":                   fault(api.ErrSyntax, 10),
		"func f() {}}":                 fault(api.ErrSyntax, 11),
		"func f() { func g() {} }":     fault(api.ErrSyntax, 11),
		"func f() { const a = 1; }":    fault(api.ErrSyntax, 11),
		"func f() { { } }":             fault(api.ErrSyntax, 11),
		"func f() { ; }":               fault(api.ErrSyntax, 11),
		"include":                      fault(api.ErrSyntax, 7),
		`include a as a;`:              fault(api.ErrSyntax, 8),
		`include "a" a;`:               fault(api.ErrSyntax, 12),
		`include "a" as as;`:           fault(api.ErrSyntax, 15),
		`include "a" as a`:             fault(api.ErrSyntax, 16),
		`include "a" as a include`:     fault(api.ErrSyntax, 17),
		`include "a as a;`:             fault(api.ErrText, 8),
		"@":                            fault(api.ErrByte, 0),
		"const a = 1; @":               fault(api.ErrByte, 13),
		"const a = 1; x @":             fault(api.ErrSyntax, 13),
	} {
		refused(t, src, 99, want.Why, want.At)
	}
}

// inner lays statements into a function; what stands at 0 there stands at 10 then.
func inner(stmts string) string { return "func f() {" + stmts + "}" }

// G1: each kind of statement.
func TestStatements(t *testing.T) {
	one, yes := number(0, 1), truth(0, true)
	at := func(e api.Expr, at int) api.Expr { e.At = at; return e }
	do := func(at int, of, s string) api.Stmt {
		return api.Stmt{Kind: api.StmtDo, At: at, Expr: call(at, of, s)}
	}
	for src, want := range map[string][]api.Stmt{
		"":                     {},
		"var a = 1;":           {{Kind: api.StmtVar, At: 10, Name: "a", Expr: at(one, 18)}},
		" a = 1;":              {{Kind: api.StmtSet, At: 11, Name: "a", Expr: at(one, 15)}},
		"if true {}":           {{Kind: api.StmtIf, At: 10, Expr: at(yes, 13)}},
		"if true {f();}":       {{Kind: api.StmtIf, At: 10, Expr: at(yes, 13), Body: []api.Stmt{do(19, "", "f")}}},
		"if true {}else{}":     {{Kind: api.StmtIf, At: 10, Expr: at(yes, 13), HasElse: true}},
		"if(true){}else{f();}": {{Kind: api.StmtIf, At: 10, Expr: at(yes, 13), HasElse: true, Else: []api.Stmt{do(25, "", "f")}}},
		"if true {} else if 1 {} else {}": {{Kind: api.StmtIf, At: 10, Expr: at(yes, 13), HasElse: true, Else: []api.Stmt{
			{Kind: api.StmtIf, At: 26, Expr: at(one, 29), HasElse: true}}}},
		"if true {} else if 1 {} f();": {{Kind: api.StmtIf, At: 10, Expr: at(yes, 13), HasElse: true, Else: []api.Stmt{
			{Kind: api.StmtIf, At: 26, Expr: at(one, 29)}}}, do(34, "", "f")},
		"if true {} else { if 1 {} f(); }": {{Kind: api.StmtIf, At: 10, Expr: at(yes, 13), HasElse: true, Else: []api.Stmt{
			{Kind: api.StmtIf, At: 28, Expr: at(one, 31)}, do(36, "", "f")}}},
		"while 1 {}":       {{Kind: api.StmtWhile, At: 10, Expr: at(one, 16)}},
		"while 1 {f();}":   {{Kind: api.StmtWhile, At: 10, Expr: at(one, 16), Body: []api.Stmt{do(19, "", "f")}}},
		"return;":          {{Kind: api.StmtReturn, At: 10}},
		"return 1;":        {{Kind: api.StmtReturn, At: 10, Expr: at(one, 17)}},
		"print 1;":         {{Kind: api.StmtPrint, At: 10, Expr: at(one, 16)}},
		"f();":             {do(10, "", "f")},
		"a.f();":           {do(10, "a", "f")},
		"a.f(1);return;":   {{Kind: api.StmtDo, At: 10, Expr: call(10, "a", "f", at(one, 14))}, {Kind: api.StmtReturn, At: 17}},
		"if f() {} f();":   {{Kind: api.StmtIf, At: 10, Expr: call(13, "", "f")}, do(20, "", "f")},
		"while a.f {}":     {{Kind: api.StmtWhile, At: 10, Expr: name(16, "a", "f")}},
		"f(); f(); a = 1;": {do(10, "", "f"), do(15, "", "f"), {Kind: api.StmtSet, At: 20, Name: "a", Expr: at(one, 24)}},
	} {
		m, f := parse.Module(inner(src), 99)
		if f != (api.Fault{}) || !equal(m, api.Module{Funcs: []api.Func{{Name: "f", At: 5, Body: want}}}) {
			t.Errorf("%s: %v, %v", src, m, f)
		}
	}
}

// G1: each of a statement's tokens is another one, or missing. At is told from the statement's first byte on.
func TestWrongStatements(t *testing.T) {
	for src, at := range map[string]int{
		"1;": 0, "else {}": 0, "(f)();": 0, "true;": 0, "int;": 0, "-f();": 0, `"a";`: 0, "=": 0, "as": 0, "export const a = 1;": 0, ")": 0,
		"var": 3, "var 1": 4, "var if": 4, "var = 1;": 4, "var a": 5, "var a: int = 1;": 5, "var a.b = 1;": 5, "var a == 1;": 6, "var a = ;": 8, "var a = 1": 9, "var a = 1 var": 10, "var a;": 5,
		"a": 1, "a;": 1, "a b": 2, "a == 1;": 2, "a + 1;": 2, "a = ;": 4, "a = 1": 5, "a = b = 1;": 6, "a = 1, b": 5, "a {": 2, "a = {": 4,
		"a.": 2, "a.1": 2, "a.if": 2, "a.b;": 3, "a.b": 3, "a.b = 1;": 4, "a.b.c();": 3, "f(": 2, "f(1": 3, "f(,": 2, "f(1,": 4, "f(1,)": 4, "f(1 2)": 4, "f()": 3, "f()()": 3, "f().a": 3, "f() + 1;": 4, "f() = 1;": 4, "f(var": 2,
		"if": 2, "if {": 3, "if ;": 3, "if (": 4, "if a": 4, "if a;": 4, "if a a {}": 5, "if a {": 6, "if a { ; }": 7, "if a {} else": 12, "if a {} else ;": 13, "if a {} else while": 13, "if a {} else a": 13, "if a {} else {": 14, "if a {} else {} else {}": 16, "if a {} else if": 15, "if a {} else if {": 16, "if a {} else if b": 17, "if a f();": 5, "if a = b {": 5,
		"while": 5, "while {": 6, "while a": 7, "while a;": 7, "while a {": 9, "while a {} else {}": 11, "while a f();": 8, "while var": 6,
		"return": 6, "return return": 7, "return var": 7, "return 1": 8, "return 1 2": 9, "return {": 7, "return )": 7, "return 1,": 8, "return int": 7,
		"print": 5, "print;": 5, "print 1": 7, "print 1 2": 8, "print 1,": 7, "print print": 6, "print {": 6,
	} {
		// All that is open stays open at the end, so that the end is the wrong token of what is not whole.
		refused(t, inner(src)[:10+len(src)], 99, api.ErrSyntax, 10+at)
	}
}

// G1: where a statement's or an expression's token should be there is none: layer 12's error.
func TestNoTokens(t *testing.T) {
	for _, ahead := range []string{"", "const ", "const c ", "const c = ", "const c = 1 ", "const c = 1; ", "func ", "func f ", "func f(", "func f(a ", "func f(a: ", "func f(a: int ", "func f() ", "func f(): ", "func f() { ", "func f() { var ", "func f() { if ", "func f() { if a ", "func f() { if a {} ", "func f() { if a {} else ", "func f() { return ", "func f() { a ", "func f() { a.", "func f() { a( ", "func f() { a(b ", "func f() { a(b, ", "func f() { a = -", "func f() { a() ", "export ", "include ", `include "a" `} {
		for s, why := range noTokens {
			refused(t, ahead+s, 99, why, len(ahead))
			refused(t, ahead+s+" ;", 99, why, len(ahead))
		}
	}
}

// G1: each kind of expression.
func TestExpressions(t *testing.T) {
	a, b := name(0, "", "a"), name(0, "", "b")
	at := func(e api.Expr, at int) api.Expr { e.At = at; return e }
	for src, want := range map[string]api.Expr{
		"0": number(0, 0), " 12 ": number(1, 12), "9223372036854775807": number(0, math.MaxInt64),
		"true": truth(0, true), "false": truth(0, false),
		`""`: text(0, ""), `"a\x0a\"\xff"`: text(0, "a\n\"\xff"), `"true"`: text(0, "true"), `"1"`: text(0, "1"),
		"a": a, "a.b": name(0, "a", "b"), "a . b": name(0, "a", "b"),
		"a()": call(0, "", "a"), "a ( )": call(0, "", "a"), "a.b()": call(0, "a", "b"), "a(b)": call(0, "", "a", at(b, 2)),
		"a.b(1, b)": call(0, "a", "b", number(4, 1), at(b, 7)), "a(a(b), (b))": call(0, "", "a", call(2, "", "a", at(b, 4)), at(b, 9)),
		"(a)": at(a, 1), "((a))": at(a, 2), "(a.b())": call(1, "a", "b"), "( a + b )": binary(4, api.OpAdd, at(a, 2), at(b, 6)),
		"-a": unary(0, api.OpNeg, at(a, 1)), "!a": unary(0, api.OpNot, at(a, 1)), "#a": unary(0, api.OpLen, at(a, 1)), "- a": unary(0, api.OpNeg, at(a, 2)),
		"-!#a": unary(0, api.OpNeg, unary(1, api.OpNot, unary(2, api.OpLen, at(a, 3)))), "--a": unary(0, api.OpNeg, unary(1, api.OpNeg, at(a, 2))),
		"-a()": unary(0, api.OpNeg, call(1, "", "a")), "-a.b": unary(0, api.OpNeg, name(1, "a", "b")), "-(a)": unary(0, api.OpNeg, at(a, 2)), "-(a+b)": unary(0, api.OpNeg, binary(3, api.OpAdd, at(a, 2), at(b, 4))),
	} {
		foundExpr(t, src, 99, want)
	}
	for op, sign := range binarySigns {
		foundExpr(t, "a "+sign+" b", 3, binary(2, op, a, at(b, 3+len(sign))))
		foundExpr(t, "a"+sign+"b", 3, binary(1, op, a, at(b, 1+len(sign))))
	}
}

var binarySigns = map[api.Op]string{
	api.OpOr: "||", api.OpAnd: "&&", api.OpEq: "==", api.OpNe: "!=", api.OpLt: "<", api.OpLe: "<=", api.OpGt: ">", api.OpGe: ">=",
	api.OpAdd: "+", api.OpSub: "-", api.OpJoin: "++", api.OpMul: "*", api.OpDiv: "/", api.OpRem: "%",
}

// shape writes an expression with a bracket around each operator.
func shape(e api.Expr) string {
	switch e.Kind {
	case api.ExprUnary:
		return "(" + map[api.Op]string{api.OpNeg: "-", api.OpNot: "!", api.OpLen: "#"}[e.Op] + shape(e.Kids[0]) + ")"
	case api.ExprBinary:
		return "(" + shape(e.Kids[0]) + binarySigns[e.Op] + shape(e.Kids[1]) + ")"
	}
	return e.Name
}

// G1: operators of one line bind to the left, those of several as the grammar has it.
func TestBinding(t *testing.T) {
	for src, want := range map[string]string{
		"a || b || c": "((a||b)||c)", "a && b && c": "((a&&b)&&c)", "a - b + c ++ d": "(((a-b)+c)++d)", "a * b / c % d": "(((a*b)/c)%d)", "a - b - c - d": "(((a-b)-c)-d)",
		"a || b && c": "(a||(b&&c))", "a && b || c": "((a&&b)||c)", "a && b == c": "(a&&(b==c))", "a == b && c": "((a==b)&&c)",
		"a < b + c": "(a<(b+c))", "a + b < c": "((a+b)<c)", "a + b * c": "(a+(b*c))", "a * b + c": "((a*b)+c)", "a ++ b % c ++ d": "((a++(b%c))++d)",
		"-a * b": "((-a)*b)", "-a + b": "((-a)+b)", "a * -b": "(a*(-b))", "a - -b": "(a-(-b))", "a + +b": "", "!a == b": "((!a)==b)", "#a ++ b": "((#a)++b)", "!a && !b": "((!a)&&(!b))",
		"a == b || c != d && e < f": "((a==b)||((c!=d)&&(e<f)))", "a - (b - c)": "(a-(b-c))", "(a || b) && c": "((a||b)&&c)", "a * (b + c)": "(a*(b+c))", "(a < b) == c": "((a<b)==c)", "a < (b == c)": "(a<(b==c))",
		"a || b && c == d + e * -f": "(a||(b&&(c==(d+(e*(-f))))))", "-a * b + c == d && e || f": "((((((-a)*b)+c)==d)&&e)||f)", "a < b && c < d": "((a<b)&&(c<d))",
	} {
		e, f := parse.Expr(src, 99)
		if want == "" {
			if f.Why != api.ErrSyntax {
				t.Errorf("%s: %v", src, f)
			}
			continue
		}
		if got := shape(e); got != want || f != (api.Fault{}) {
			t.Errorf("%s: %s, %v, not %s", src, got, f, want)
		}
	}
	for _, a := range []string{"==", "!=", "<", "<=", ">", ">="} {
		for _, b := range []string{"==", "!=", "<", "<=", ">", ">="} {
			refusedExpr(t, "a "+a+" b "+b+" c", 99, api.ErrSyntax, 5+len(a))
		}
	}
}

// G1: each of an expression's tokens is another one, or missing.
func TestWrongExpressions(t *testing.T) {
	for src, at := range map[string]int{
		"": 0, " ": 1, "// x": 4, "var": 0, "int": 0, "if": 0, ")": 0, ";": 0, "=": 0, ".": 0, ",": 0, "{": 0, "*": 0, "+": 0, "++a": 0, "&& a": 0,
		"a b": 2, "a;": 1, "a)": 1, "a,": 1, "a = b": 2, "1 2": 2, "1(": 1, "1.a": 1, `"a"(`: 3, "true(": 4, "true.a": 4, "a !": 2, "a #b": 2, "a {": 2, "a true": 2,
		"(": 1, "()": 1, "(a": 2, "(a,": 2, "(a b": 3, "(a;": 2, "(a}": 2, "(a))": 3, "(a)(": 3, "(a).b": 3, "(var": 1,
		"a.": 2, "a.1": 2, "a.if": 2, "a.(": 2, "a.b.c": 3, "a..b": 2, "a(": 2, "a(b": 3, "a(,": 2, "a(b,": 4, "a(b,)": 4, "a(b c": 4, "a(b;": 3, "a(b}": 3, "a()()": 3, "a().b": 3, "a(=": 2,
		"-": 1, "!": 1, "#": 1, "-)": 1, "-;": 1, "--": 2, "- var": 2, "-+": 1, "!*a": 1, "a -": 3, "a ||": 4, "a || ||": 5, "a && )": 5, "a == ": 5, "a * / b": 4, "a + * b": 4, "a < < b": 4, "a ++ ++ b": 5, "a | b": 2,
	} {
		why := api.ErrSyntax
		if src == "a | b" {
			why = api.ErrByte
		}
		refusedExpr(t, src, 99, why, at)
	}
}

// G1: one token with which several things are wrong.
func TestSeveralFaults(t *testing.T) {
	refused(t, "const 08", 0, api.ErrFuel, 0)
	refused(t, "const 08", 1, api.ErrNumber, 6)
	refused(t, "const 8", 1, api.ErrFuel, 6)
	refused(t, "const 8", 2, api.ErrSyntax, 6)
	refused(t, "const const", -5, api.ErrFuel, 0)
	refused(t, "@", 0, api.ErrByte, 0)
	refused(t, "@", -1, api.ErrByte, 0)
	refused(t, "x", 0, api.ErrFuel, 0)
	refused(t, "x", 1, api.ErrSyntax, 0)
	refused(t, "const", 1, api.ErrSyntax, 5)
	refused(t, "const ", 0, api.ErrFuel, 0)
	deep := strings.Repeat("(", 64)
	for fuel, want := range map[int]api.Fault{63: fault(api.ErrFuel, 63), 64: fault(api.ErrFuel, 64), 65: fault(api.ErrNested, 64), 66: fault(api.ErrNested, 64)} {
		refusedExpr(t, deep+"(", fuel, want.Why, want.At)
		refusedExpr(t, deep+"-@", fuel, want.Why, want.At)
	}
	// Beyond the levels, and no source goes on so either.
	refusedExpr(t, deep+"{", 99, api.ErrSyntax, 64)
	refusedExpr(t, deep+"1(", 99, api.ErrSyntax, 65)
	refusedExpr(t, deep+"1!", 99, api.ErrSyntax, 65)
	refusedExpr(t, deep+"(a)(", 99, api.ErrNested, 64)
	refusedExpr(t, deep+"a(", 99, api.ErrNested, 65)
	refusedExpr(t, deep+"a#", 99, api.ErrSyntax, 65)
	// Beyond the levels, and no token.
	refusedExpr(t, deep+"(@", 99, api.ErrNested, 64)
	refusedExpr(t, deep+"@", 99, api.ErrByte, 64)
	// The end lacks no fuel.
	refusedExpr(t, deep, 64, api.ErrSyntax, 64)
	refusedExpr(t, "", 0, api.ErrSyntax, 0)
	refusedExpr(t, "a", 0, api.ErrFuel, 0)
	foundExpr(t, "a", 1, name(0, "", "a"))
}

// G1, G2: fuel below 0, 0, one too little, just enough, and more.
func TestFuel(t *testing.T) {
	tokens := tokensOf(example)
	want, _ := parse.Module(example, 27)
	for _, fuel := range []int{math.MinInt, -1, 0} {
		refused(t, example, fuel, api.ErrFuel, 0)
		found(t, "", 0, api.Module{})
		if m, f := parse.Module(" // x", fuel); f != (api.Fault{}) || !equal(m, api.Module{}) {
			t.Error(fuel, m, f)
		}
		refusedExpr(t, " a", fuel, api.ErrFuel, 1)
	}
	for fuel := range 27 {
		refused(t, example, fuel, api.ErrFuel, tokens[fuel].From)
	}
	for _, fuel := range []int{27, 28, api.MaxFuel, api.MaxFuel + 1, math.MaxInt} {
		if m, f := parse.Module(example, fuel); f != (api.Fault{}) || !equal(m, want) {
			t.Error(fuel, m, f)
		}
		foundExpr(t, "a", fuel, name(0, "", "a"))
	}
}

// G2: Fuel of sources with which something is wrong.
func TestFuelOfFaults(t *testing.T) {
	for src, want := range map[string]struct {
		fuel int
		f    api.Fault
	}{
		"x":             {1, fault(api.ErrSyntax, 0)},
		"@":             {0, fault(api.ErrByte, 0)},
		"const":         {1, fault(api.ErrSyntax, 5)},
		"const 1":       {2, fault(api.ErrSyntax, 6)},
		"const c = 08;": {3, fault(api.ErrNumber, 10)},
		"const c = 8 8": {5, fault(api.ErrSyntax, 12)},
		"const c = 8":   {4, fault(api.ErrSyntax, 11)},
		"const c=" + strings.Repeat("-", 64) + "1;":   {69, api.Fault{}},
		"const c=" + strings.Repeat("-", 65) + "1;":   {68, fault(api.ErrNested, 72)},
		strings.Repeat(" ", 65536):                    {0, api.Fault{}},
		strings.Repeat(" ", 65537):                    {0, fault(api.ErrLong, 0)},
		"const c = 1;" + strings.Repeat(" ", 65536):   {0, fault(api.ErrLong, 0)},
		"const c = 1; const" + strings.Repeat(";", 9): {7, fault(api.ErrSyntax, 18)},
	} {
		if n, f := parse.Fuel(src); n != want.fuel || f != want.f {
			t.Errorf("Fuel(%.60q): %d, %v, not %d, %v", src, n, f, want.fuel, want.f)
		}
	}
}

// G1: a source of MaxSource bytes, and one of one more.
func TestLongSources(t *testing.T) {
	const one = "const c = 1;"
	full := strings.Repeat(" ", 65536-len(one)) + one
	found(t, full, 5, api.Module{Consts: []api.Const{{Name: "c", At: 65530, Expr: number(65534, 1)}}})
	foundExpr(t, strings.Repeat(" ", 65535)+"1", 1, number(65535, 1))
	refused(t, strings.Repeat(" ", 65535)+"x", 1, api.ErrSyntax, 65535)
	refused(t, strings.Repeat(" ", 65531)+"const", 1, api.ErrSyntax, 65536)
	for _, long := range []string{full + " ", " " + full, full + full, strings.Repeat(" ", 65537), strings.Repeat("@", 65537), "@" + full} {
		for _, fuel := range []int{-1, 0, 99} {
			refused(t, long, fuel, api.ErrLong, 0)
			refusedExpr(t, long, fuel, api.ErrLong, 0)
		}
	}
}

// R1: sources of as many tokens, and of trees as deep, as there can be.
func TestGreatSources(t *testing.T) {
	row := "1" + strings.Repeat("-1", 32767)
	e, f := parse.Expr(row, 65535)
	if f != (api.Fault{}) || !parse.RightExpr(e) {
		t.Fatal(f)
	}
	refusedExpr(t, row, 65534, api.ErrFuel, 65534)
	for n := 32767; n > 0; n-- {
		if e.At != 2*n-1 || e.Op != api.OpSub || !equal(e.Kids[1], number(2*n, 1)) {
			t.Fatal(n, e.At)
		}
		e = e.Kids[0]
	}
	chain := inner(strings.Repeat("if a{}else ", 5956) + "{}")
	m, f := parse.Module(chain, 65536)
	if f != (api.Fault{}) || !parse.Right(m) {
		t.Fatal(len(chain), f)
	}
	n := 0
	for s := m.Funcs[0].Body; len(s) > 0; s = s[0].Else {
		if len(s) != 1 || s[0].At != 10+11*n || !s[0].HasElse {
			t.Fatal(n, s[0].At)
		}
		n++
	}
	if n != 5956 {
		t.Error(n)
	}
	many := strings.Repeat("func f(){}", 6553)
	if m, f := parse.Module(many, 6553*6); f != (api.Fault{}) || len(m.Funcs) != 6553 || m.Funcs[6552].At != 65525 {
		t.Error(f, len(m.Funcs))
	}
	for src, want := range map[string]int{many: 6553 * 6, "const c=" + row[:65527] + ";": 65531, "const c=" + row[:65527]: 65530, "const c=" + row[:65527] + "@": 65530, chain: 5956*5 + 8} {
		if n, _ := parse.Fuel(src); n != want {
			t.Error("Fuel:", n, "not", want)
		}
	}
	refusedExpr(t, strings.Repeat("(", 65536), 65536, api.ErrNested, 64)
	refusedExpr(t, "f("+strings.Repeat("1,", 32767), 65536, api.ErrSyntax, 65536)
}
