package check_test

import (
	"strings"
	"testing"

	"treadle/api"
)

// world is what the bodies here may name.
const world = `include "t" as t; include "u" as u; const n = 1; const s = "x"; const b = true; func none1() { } func int1(): int { return 1; } func bool1(a: int, c: bool): bool { return c; } func text1(a: text): text { return a; } `

// body asks for what is told of a function's body, amid what may be named.
func body(t *testing.T, head, src string, whys ...api.Errno) {
	t.Helper()
	tells(t, strings.Replace(world, "", "", 1)+"func "+head+" { "+src+" }", whys...)
}

// P17.1: from where on and up to where a variable is known.
func TestVariables(t *testing.T) {
	for _, src := range []string{
		"var a = 1; print a + 1; var c = a; a = c;", "if b { var a = 1; print a; } var a = \"\"; print #a;", "if b { var a = 1; } else { var a = \"\"; print #a; } while b { var a = b; a = !a; }",
		"var n = \"\"; print #n; n = s;", "var n = n + 1;", "var int1 = 1; print int1 + int1();", "var t = t.k; print t + t.k; t = 2;", "var f = 1; f(f);", "x = x + 1; if b { x = 2; }",
		"if b { var n = \"\"; } print n + 1;", "if b { if b { var a = 1; } } var a = 1; if b { a = 2; while b { print a; } }", "return; var a = 1; a = 2;", "var main = 1; var u = 1; var s = s ++ s;",
	} {
		body(t, "f(x: int)", src)
	}
	for _, src := range []string{
		"var a = ^a;", "print ^a; var a = 1;", "if b { var a = 1; } print ^a;", "if b { var a = 1; } else { print ^a; }", "while b { var a = 1; } ^a = 1;", "^a = 1; var a = 1;", "if ^a { var a = b; }",
		"if b { var a = 1; print a; } if b { print ^a; }", "if b { var a = 1; } ^a = b;", "while b { if b { var a = 1; } print ^a; }", "print ^int1;", "^n = 1;", "^int1 = 1;", "^t = 1;", "print ^t;", "print 1; print ^t.a;",
		"print ^u.s;", "print ^t.g;", "print ^v.k;", "var v = 1; print ^v.k;", "print ^f;", "^f = f(1);", "print ^none1;", "var a = 1; print ^t.a;", "print ^x.k;", "print ^s.k;",
	} {
		body(t, "f(x: int)", src, unknown)
	}
	for _, src := range []string{
		"var a = 1; ^var a = 1;", "^var x = 1;", "var a = 1; if b { ^var a = 1; }", "if b { ^var x = 1; }", "if b { } else { ^var x = 1; }", "while b { var a = 1; if b { } else { while b { ^var a = \"\"; } } }",
		"var n = 1; ^var n = n;", "if b { var a = 1; } var a = 1; if b { ^var a = 1; }", "var a = 1; a = 2; ^var a = a; var a = 1;", "return; ^var x = 1;",
	} {
		body(t, "f(x: int)", src, twice)
	}
	// A constant with which something is wrong means nothing in functions either; a variable may have its name.
	tells(t, "const a = 1 ^/ 0; func f() { var a = 1; print a; } func g() { print ^a; } func h(a: int) { a = 2; }", konst, unknown)
	tells(t, "func f() { print a + c; } const a = 1; const c = a;")
}

// P17.1: what is wrong with a var, in its order.
func TestVar(t *testing.T) {
	body(t, "f()", "var a = ^none1();", typ)
	body(t, "f()", "var a = 1; var a = ^none1();", typ)
	body(t, "f()", "var a = 1; var a = ^c;", unknown)
	body(t, "f()", "var a = 1; ^var a = 2; x = 1;", twice)
	body(t, "f()", "var a = ^u.q(); print a;", typ)
	body(t, "f()", "var a = 1 + ^none1();", typ)
}

// P17.1: so many variables, and one more.
func TestManyVariables(t *testing.T) {
	some := func(from, to int) string { return numbered(from, to, "var vN = 1;") }
	body(t, "f()", some(1, 64))
	body(t, "f()", some(1, 64)+"^var a = 1; x = 1;", vars)
	body(t, "f()", some(1, 64)+"^var v1 = 1;", twice)
	body(t, "f()", some(1, 64)+"var a = ^none1();", typ)
	body(t, "f()", some(1, 64)+"if b { ^var a = 1; }", vars)
	body(t, "f()", some(1, 64)+"return; ^var a = 1;", vars)
	body(t, "f(x: int, y: text)", some(1, 62))
	body(t, "f(x: int, y: text)", some(1, 62)+"^var a = 1;", vars)
	// Those of blocks that have ended count, too, also where one name is had by several.
	body(t, "f()", "if b { "+some(1, 20)+"} else { "+some(1, 20)+"} while b { "+some(1, 20)+"} "+some(1, 4))
	body(t, "f()", "if b { "+some(1, 20)+"} else { "+some(1, 20)+"} while b { "+some(1, 20)+"} "+some(1, 4)+"^var a = 1;", vars)
	body(t, "f(x: int)", strings.Repeat("if b { var a = 1; } ", 63)+"if b { ^var a = 1; }", vars)
	body(t, "f()", numbered(1, 62, "if b { var vN = 1;")+"var c = v1 + v62; c = v31; var d = 1;"+strings.Repeat("}", 62)+"^var e = 1;", vars)
}

// P17.1: set, and the order of its faults.
func TestSet(t *testing.T) {
	for _, src := range []string{"var a = 1; a = 2; a = int1(); a = n;", "x = 1; y = \"\"; z = !z;", "var a = s; a = text1(a) ++ u.k;", "var n = 1; n = n + 1;"} {
		body(t, "f(x: int, y: text, z: bool)", src)
	}
	body(t, "f(x: int)", "^a = c;", unknown)
	body(t, "f(x: int)", "^a = none1();", unknown)
	body(t, "f(x: int)", "x = ^c;", unknown)
	body(t, "f(x: int)", "x = ^b;", typ)
	body(t, "f(x: int)", "x = 1 + ^b;", typ)
	body(t, "f(x: int)", "x = ^none1();", typ)
	body(t, "f(x: int)", "x = n ^== n;", typ)
	body(t, "f(x: text)", "x = ^#x;", typ)
	body(t, "f(x: bool)", "if x { x = ^-1; }", typ)
	body(t, "f(x: bool)", "^s = s;", unknown)
}

// P17.1: if and while of what is no bool, and what stands in their blocks.
func TestIfAndWhile(t *testing.T) {
	for _, key := range []string{"if", "while"} {
		for e, why := range map[string]api.Errno{"^1": typ, "^s": typ, "^none1()": typ, "^int1()": typ, "n ^+ 1": typ, "^c": unknown, "b && ^n": typ, "^c && 1": unknown, "bool1(1, ^n)": typ} {
			body(t, "f()", key+" "+e+" { x = 1; }", why)
		}
		body(t, "f()", key+" b { ^x = 1; }", unknown)
		body(t, "f()", key+" b { "+key+" true { print ^x; } y = 1; }", unknown)
		body(t, "f()", key+" bool1(1, b) || n == 1 && !b { }")
	}
	body(t, "f()", "if b { ^x = 1; } else { y = 1; }", unknown)
	body(t, "f()", "if b { } else { ^y = 1; }", unknown)
	body(t, "f()", "if b { } else if ^n { y = 1; } else { y = 2; }", typ)
	body(t, "f()", "if b { } else if b { } else { print ^y; }", unknown)
	body(t, "f()", "if b { } else { } print ^y;", unknown)
}

// P17.1: return with and without an expression, in functions with and without a result.
func TestReturn(t *testing.T) {
	body(t, "f()", "return;")
	body(t, "f()", "^return 1;", result)
	body(t, "f()", "^return x;", result)
	body(t, "f()", "^return none1();", result)
	body(t, "f(): int", "^return;", result)
	body(t, "f(): int", "if b { ^return; } return 1;", result)
	body(t, "f(): int", "return ^s;", typ)
	body(t, "f(): int", "return ^none1();", typ)
	body(t, "f(): int", "return ^x;", unknown)
	body(t, "f(): int", "return n; return ^b;", typ)
	for name, good := range map[string]string{"int": "n", "bool": "b", "text": "s"} {
		for _, e := range []string{"n", "b", "s"} {
			if e == good {
				body(t, "f(): "+name, "return "+e+";")
			} else {
				body(t, "f(): "+name, "return ^"+e+";", typ)
			}
		}
	}
}

// P17.1: print, and a call as a statement.
func TestPrintAndCalls(t *testing.T) {
	body(t, "f()", "print 1; print s; print b; print int1(); print u.f(); none1(); int1(); u.q(); t.h(1); t.q();")
	body(t, "f()", "print ^none1();", typ)
	body(t, "f()", "print ^u.q();", typ)
	body(t, "f()", "print ^t.h(1);", typ)
	body(t, "f()", "print t.h(^s);", typ)
	body(t, "f()", "print ^x;", unknown)
	body(t, "f()", "none1(); ^none2();", unknown)
}

// P17.1: bodies that return, and that don't.
func TestReturns(t *testing.T) {
	for _, src := range []string{
		"return 1;", "print 1; return 1; print 2;", "if b { return 1; } else { return 2; }", "if b { return 1; } else if b { return 2; } else { return 3; }", "if b { } return 1;",
		"if b { print 1; return 1; print 2; } else { if b { return 2; } else { return 3; } } print 4;", "while b { } return 1;", "if b { if b { } return 1; } else { return 2; }",
		"return 1; if b { } else { }", "if b { } else { } if b { return 1; } else { return 2; }", "while b { return 1; } return 2;", "return 1; return 2;",
	} {
		body(t, "f(): int", src)
		body(t, "f()", strings.NewReplacer("return 1", "return", "return 2", "return", "return 3", "return").Replace(src))
	}
	for _, src := range []string{
		"", "print 1;", "if b { return 1; }", "while b { return 1; }", "while true { return 1; }", "while true { }", "if b { return 1; } else { }", "if b { } else { return 1; }", "if true { return 1; } else { print 1; }",
		"if b { return 1; } else if b { return 2; }", "if b { while b { return 1; } } else { return 2; }", "if b { return 1; } if !b { return 2; }", "if b { if b { return 1; } } else { return 2; }", "while b { if b { return 1; } else { return 2; } }",
		"if b { if b { return 1; } else { return 2; } }", "int1();",
	} {
		body(t, "^f(): int", src, ret)
		body(t, "f()", strings.NewReplacer("return 1", "return", "return 2", "return").Replace(src))
	}
	// What is wrong with a statement stands ahead of it.
	body(t, "f(): int", "^x = 1;", unknown)
	body(t, "f(): int", "if b { return ^b; }", typ)
}

// P17.1: calls of what is none, with too few and too many arguments, with arguments of another type.
func TestCalls(t *testing.T) {
	for _, src := range []string{
		"print bool1(1, true);", "print bool1(int1(), bool1(n, b));", "print text1(text1(text1(s)));", "print t.g(s, t.q()) && t.y;", "f(1);", "print u.f() ++ u.k;", "bool1(x + 1, x == 1);", "later();",
	} {
		body(t, "f(x: int)", src+" } func later() { f(2);")
	}
	for src, why := range map[string]api.Errno{
		"^g();": unknown, "^n();": unknown, "^x();": unknown, "print ^s(c);": unknown, "^t.k();": unknown, "^t.none1();": unknown, "^u.g();": unknown, "^v.g();": unknown, "^t();": unknown, "var g = 1; ^g();": unknown,
		"^none1(1);": args, "^int1(c);": args, "print ^bool1(1);": args, "^bool1(1, true, 2);": args, "^bool1();": args, "^t.g(s);": args, "^t.h();": args, "^f();": args, "print ^text1(s, s);": args, "^f(1, c());": args,
		"text1(^1);": typ, "bool1(^b, b);": typ, "bool1(1, ^1);": typ, "bool1(^s, 1);": typ, "f(^none1());": typ, "text1(text1(^b));": typ, "t.g(s, ^s);": typ, "t.g(^n, s);": typ, "bool1(1 + ^s, 1);": typ,
		"bool1(^c, b);": unknown, "bool1(1, ^c);": unknown, "bool1(n, b && ^c);": unknown, "print text1(^c()) ++ 1;": unknown, "bool1(int1(), bool1(^c, 1));": unknown, "print text1(^int1(1));": args, "bool1(n, ^bool1(n));": args,
		"print none1() + ^c;": unknown, "print 1 + ^none1();": typ, "print ^none1() == none1();": typ,
	} {
		body(t, "f(x: int)", src, why)
	}
}

// operands are expressions by their types, each marked at its place.
var operands = []struct {
	text string
	t    api.Type
}{{"^n", api.TypeInt}, {"^b", api.TypeBool}, {"^s", api.TypeText}, {"^none1()", api.TypeNone}, {"^int1()", api.TypeInt}, {"(1 ^< 2)", api.TypeBool}, {"^text1(s)", api.TypeText}}

func unmarked(s string) string { return strings.ReplaceAll(s, "^", "") }

func letterOf(t api.Type) string { return "-ibt"[t : t+1] }

var typeNames = map[string]string{"i": "int", "b": "bool", "t": "text"}

// P17.1: each operator with each pair of types.
func TestOperators(t *testing.T) {
	// The types that each takes, and the one that it has.
	takes := map[string]string{
		"||": "bb=b", "&&": "bb=b", "==": "ii=b bb=b tt=b", "!=": "ii=b bb=b tt=b", "<": "ii=b tt=b", "<=": "ii=b tt=b", ">": "ii=b tt=b", ">=": "ii=b tt=b",
		"+": "ii=i", "-": "ii=i", "*": "ii=i", "/": "ii=i", "%": "ii=i", "++": "tt=t",
	}
	for sign, rows := range takes {
		for _, x := range operands {
			for _, y := range operands {
				whole := unmarked(x.text) + " " + sign + " " + unmarked(y.text)
				_, made, fits := strings.Cut(rows, letterOf(x.t)+letterOf(y.t)+"=")
				switch {
				case fits:
					body(t, "f(): "+typeNames[made[:1]], "print "+whole+"; return "+whole+";")
				case strings.Contains(" "+rows, " "+letterOf(x.t)):
					body(t, "f()", "print "+unmarked(x.text)+sign+y.text+";", typ)
				default:
					body(t, "f()", "print "+x.text+sign+unmarked(y.text)+";", typ)
				}
			}
			// Both operands are looked at ahead of their types.
			body(t, "f()", "print "+unmarked(x.text)+sign+"^c;", unknown)
		}
		body(t, "f()", "print ^c"+sign+"d;", unknown)
	}
	for sign, rows := range map[string]string{"-": "i=i", "!": "b=b", "#": "t=i"} {
		for _, x := range operands {
			if rows[:1] == letterOf(x.t) {
				body(t, "f(): "+typeNames[rows[2:]], "return "+sign+unmarked(x.text)+";")
			} else {
				body(t, "f()", "print "+sign+x.text+";", typ)
			}
		}
		body(t, "f()", "print "+sign+"^c;", unknown)
	}
	body(t, "f()", "print (n + ^b) + (s + 1);", typ)
	body(t, "f()", "print n + n == ^s;", typ)
	body(t, "f()", "print (n == n) + ^c;", unknown)
	body(t, "f()", "print (n ^== n) + 1;", typ)
}
