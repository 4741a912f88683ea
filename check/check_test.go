package check_test

import (
	"fmt"
	"slices"
	"strings"
	"testing"

	"treadle/api"
	"treadle/check"
	"treadle/parse"
)

// read is the tree of a source that is one.
func read(t *testing.T, src string) api.Module {
	t.Helper()
	m, f := parse.Module(src, api.MaxFuel)
	if f != (api.Fault{}) {
		t.Fatalf("%.200s: %v", src, f)
	}
	return m
}

// marked is a source without its marks, and where these stood.
func marked(s string) (string, []int) {
	parts := strings.Split(s, "^")
	var at []int
	for i := range parts[1:] {
		at = append(at, len(strings.Join(parts[:i+1], "")))
	}
	return strings.Join(parts, ""), at
}

// faceOf are the faces of the modules that the sources here include, by their paths.
func faceOf(path string) api.Face {
	switch path {
	case "t":
		return api.Face{
			Consts: []api.Bind{{Name: "k", Value: numberOf(-7)}, {Name: "s", Value: textOf("xyz")}, {Name: "y", Value: truthOf(true)}},
			Funcs:  []api.Sig{{Name: "g", Params: []api.Type{api.TypeText, api.TypeInt}, Result: api.TypeBool}, {Name: "h", Params: []api.Type{api.TypeInt}}, {Name: "q", Result: api.TypeInt}},
		}
	case "u":
		return api.Face{Consts: []api.Bind{{Name: "k", Value: textOf("u's")}, {Name: "z", Value: numberOf(0)}}, Funcs: []api.Sig{{Name: "f", Result: api.TypeText}, {Name: "q"}}}
	}
	return api.Face{}
}

func importsOf(m api.Module) (l []api.Import) {
	for _, in := range m.Includes {
		l = append(l, api.Import{Name: in.Name, Path: "lib/" + in.Path, Face: faceOf(in.Path)})
	}
	return l
}

// tells asks for what is told of a source: something for each mark ^, in the order in which these stand.
func tells(t *testing.T, src string, whys ...api.Errno) {
	t.Helper()
	s, places := marked(src)
	if len(places) != len(whys) {
		t.Fatal("marks:", src)
	}
	var want []api.Diag
	for i, at := range places {
		want = append(want, api.Diag{Why: whys[i], At: at})
	}
	m := read(t, s)
	f, l := check.Module(m, importsOf(m)...)
	if !slices.Equal(l, want) || len(want) > 0 && !equal(f, api.Face{}) {
		t.Errorf("%.2000s: %v, %v, not %v", src, l, f, want)
	}
}

// exports asks for a module's face, as a text.
func exports(t *testing.T, src string, want string) {
	t.Helper()
	m := read(t, src)
	f, l := check.Module(m, importsOf(m)...)
	if got := shown(f); got != want || len(l) > 0 {
		t.Errorf("%.2000s: %s, %v, not %s", src, got, l, want)
	}
}

func shown(f api.Face) string {
	var l []string
	for _, c := range f.Consts {
		v := c.Value
		l = append(l, c.Name+" "+map[api.Type]string{api.TypeInt: fmt.Sprint(v.Int), api.TypeBool: fmt.Sprint(v.Bool), api.TypeText: fmt.Sprintf("%q", v.Text)}[v.Type])
	}
	for _, x := range f.Funcs {
		s := x.Name + "("
		for _, p := range x.Params {
			s += "-ibt"[p : p+1]
		}
		l = append(l, s+")"+"-ibt"[x.Result:x.Result+1])
	}
	return strings.Join(l, " ")
}

const (
	unknown = api.ErrUnknown
	twice   = api.ErrTwice
	typ     = api.ErrType
	args    = api.ErrArgs
	result  = api.ErrResult
	konst   = api.ErrConst
	ret     = api.ErrReturn
	vars    = api.ErrVars
)

// P17.1: the chapter's examples.
func TestExamples(t *testing.T) {
	src := "export const a = 2 * 3; %s func f(): int { return a; } export func g(x: text): bool { return x == \"\" || f() < #x; }"
	exports(t, fmt.Sprintf(src, ""), "a 6 g(t)b")
	tells(t, fmt.Sprintf(src, "const b = a ^++ \"x\";"), typ)
	tells(t, "func ^f(): int { if 1 < 2 { return 1; } }", ret)
	tells(t, "func f() { var a = 1; if true { ^var a = 2; } }", twice)
	tells(t, "func f() { ^a = 1; }", unknown)
	tells(t, "func f() { var a = ^f(); }", typ)
}

// P17.1: the errors' numbers.
func TestNumbers(t *testing.T) {
	for why, want := range map[api.Errno]int{unknown: 170, twice: 171, typ: 172, args: 173, result: 174, konst: 175, ret: 176, vars: 178, api.ErrArg: 1, api.ErrForm: 5} {
		if int(why) != want {
			t.Error(why, want)
		}
	}
}

// refusedWhole asks for one diagnostic of a whole module, at no place.
func refusedWhole(t *testing.T, what string, why api.Errno, m api.Module, in ...api.Import) {
	t.Helper()
	if f, l := check.Module(m, in...); !equal(f, api.Face{}) || !slices.Equal(l, []api.Diag{{Why: why}}) {
		t.Errorf("%s: %v %v", what, f, l)
	}
}

const full = `include "t" as t; include "u" as u; export const c = "xyz" ++ t.s; const d = 7; export func f(x: int, y: text): int { var i = t.k; if i < x { i = f(-i, u.f()); } else { return 1; } while t.y { print i; t.h(d); } return i; }`

// P17.1: modules that are not right; whatever else is wrong, this is told alone.
func TestModulesThatAreNotRight(t *testing.T) {
	for what, turn := range map[string]func(m *api.Module){
		"an include's name":        func(m *api.Module) { m.Includes[0].Name = "if" },
		"an include's path":        func(m *api.Module) { m.Includes[0].Path = strings.Repeat("x", 4097) },
		"a constant's name":        func(m *api.Module) { m.Consts[0].Name = "" },
		"a constant's expression":  func(m *api.Module) { m.Consts[0].Expr.Kids = nil },
		"a constant below 0":       func(m *api.Module) { m.Consts[1].Expr.Value.Int = -1 },
		"a function's name":        func(m *api.Module) { m.Funcs[0].Name = "a b" },
		"a function's result":      func(m *api.Module) { m.Funcs[0].Result = 4 },
		"a parameter's type":       func(m *api.Module) { m.Funcs[0].Params[0].Type = 0 },
		"a parameter's name":       func(m *api.Module) { m.Funcs[0].Params[0].Name = "1" },
		"a statement's kind":       func(m *api.Module) { m.Funcs[0].Body[0].Kind = 0 },
		"a statement's expression": func(m *api.Module) { m.Funcs[0].Body[0].Expr = api.Expr{} },
		"an else of a while":       func(m *api.Module) { m.Funcs[0].Body[2].HasElse = true },
		"an operator":              func(m *api.Module) { m.Funcs[0].Body[1].Expr.Op = api.OpNot },
	} {
		m := read(t, full)
		in := importsOf(m)
		if f, l := check.Module(m, in...); len(l) > 0 || shown(f) != `c "xyzxyz" f(it)i` {
			t.Fatal(f, l)
		}
		turn(&m)
		refusedWhole(t, what, api.ErrForm, m, in...)
		refusedWhole(t, what+", without imports", api.ErrForm, m)
		m.Consts = append(m.Consts, m.Consts[1])
		refusedWhole(t, what+", and a constant twice", api.ErrForm, m, in...)
	}
}

// P17.1: imports that don't fit; whatever else is wrong, this is told alone.
func TestImportsThatDoNotFit(t *testing.T) {
	m := read(t, full)
	wrong := read(t, full+" const d = 1 / 0; func f() { g(); }")
	for what, turn := range map[string]func(l []api.Import) []api.Import{
		"none":                     func(l []api.Import) []api.Import { return nil },
		"too few":                  func(l []api.Import) []api.Import { return l[:1] },
		"without the first":        func(l []api.Import) []api.Import { return l[1:] },
		"too many":                 func(l []api.Import) []api.Import { return append(l, api.Import{Name: "v"}) },
		"one twice":                func(l []api.Import) []api.Import { return append(l, l[1]) },
		"another order":            func(l []api.Import) []api.Import { return []api.Import{l[1], l[0]} },
		"another name":             func(l []api.Import) []api.Import { l[0].Name = "T"; return l },
		"another last name":        func(l []api.Import) []api.Import { l[1].Name = ""; return l },
		"names turned":             func(l []api.Import) []api.Import { l[0].Name, l[1].Name = "u", "t"; return l },
		"a face that is not right": func(l []api.Import) []api.Import { l[0].Face.Consts[1].Name = "k"; return l },
		"a last one that is not":   func(l []api.Import) []api.Import { l[1].Face.Funcs[0].Result = 4; return l },
	} {
		l := turn(importsOf(m))
		refusedWhole(t, what, api.ErrArg, m, l...)
		refusedWhole(t, what, api.ErrArg, wrong, l...)
	}
	refusedWhole(t, "one of none", api.ErrArg, api.Module{}, api.Import{})
	refusedWhole(t, "the second face of a name", api.ErrArg, read(t, `include "t" as t; include "u" as t;`), api.Import{Name: "t"}, api.Import{Name: "t", Face: api.Face{Consts: []api.Bind{{}}}})
	// Paths are not looked at.
	for _, path := range []string{"", "../..", "u", strings.Repeat("/", 9999)} {
		l := importsOf(m)
		l[0].Path, l[1].Path = path, path
		if f, told := check.Module(m, l...); len(told) > 0 || shown(f) != `c "xyzxyz" f(it)i` {
			t.Error(path, told)
		}
	}
	exports(t, "", "")
	exports(t, `include "none" as a;`, "")
}

// P17.1: includes of one name, of which the first counts.
func TestIncludes(t *testing.T) {
	tells(t, `include "t" as t; ^include "u" as t;`, twice)
	tells(t, `include "t" as t; include "u" as u; ^include "t" as t; ^include "t" as u; ^include "t" as t;`, twice, twice, twice)
	tells(t, `include "t" as a; include "t" as b; include "t" as t; const t = 1; func a() { var b = 1; }`)
	tells(t, `include "t" as t; ^include "u" as t; const a = t.k + 1; const b = ^t.z; func f() { t.h(t.k); } func g() { print ^t.f(); }`, twice, unknown, unknown)
	tells(t, `include "u" as t; ^include "t" as t; const a = t.k ++ ""; const b = ^t.s; func f() { print t.f(); t.q(); } func g() { ^t.h(1); }`, twice, unknown, unknown)
	tells(t, `include "t" as t; ^include "u" as t; include "u" as u; func f() { print u.f(); }`, twice)
}

// P17.1: constants, in their order, and what they lean on.
func TestConstants(t *testing.T) {
	tells(t, "const a = 1; const b = a; const c = a + b;")
	tells(t, "const a = ^b; const b = 1;", unknown)
	tells(t, "const a = ^a;", unknown)
	tells(t, "const a = 1; const b = ^b + a;", unknown)
	tells(t, "const a = 1 ^/ 0; const b = ^a; const c = 1 + ^b;", konst, unknown, unknown)
	tells(t, "const a = 1; const ^a = 2; const ^a = \"x\"; const b = a + 1;", twice, twice)
	tells(t, "const a = \"x\"; const ^a = 2; const b = a ^+ 1;", twice, typ)
	// A name that one has with which something is wrong is there all the same.
	tells(t, "const a = ^x; const ^a = 2; const b = ^a;", unknown, twice, unknown)
	tells(t, "const ^f = 1; const b = ^f; func f() { }", twice, unknown)
	tells(t, "func f() { } const ^f = g;", twice)
	tells(t, "const ^f = 1 / 0; func f() { print 1; }", twice)
	tells(t, "const f = 1; func g() { var f = 2; } func h(f: text) { f = \"\"; }")
	// A function with which something is wrong has its name, too.
	tells(t, "const ^f = 1; func f() { ^x = 1; }", twice, unknown)
	tells(t, "const a = ^f(); func f(): int { return 1; }", konst)
	tells(t, `include "t" as t; const a = t.k; const b = t.s ++ t.s; const c = t.y && true; const t = 1;`)
	tells(t, `include "t" as t; const a = ^t.x; const b = ^t.q; const c = ^u.k; const d = ^k; const e = ^t;`, unknown, unknown, unknown, unknown, unknown)
	tells(t, `include "t" as t; const a = ^t.q(); const b = ^t.none(); const c = ^u.q();`, konst, konst, konst)
}

// P17.1: constant expressions: the first wrong thing of several, from the left, each kid ahead of its expression.
func TestConstantExpressions(t *testing.T) {
	for _, e := range []string{
		"^a + b", "(1 + 2) * ^a", "1 ^+ true + b", "1 ^/ 0 + true", "(1 ^% 0) == a", "#^a", "-(1 ^/ 0)", "^-true", "^!1", "^#1", "^#!true", "!^-\"x\"", "true ^&& 1", "1 ^|| true",
		"false && 1 ^/ 0 == 1", "true || ^a", "false && ^f()", "true || 1 ^+ \"\" == 1", "1 ^== true", "\"\" ^!= 1", "true ^< false", "true ^>= false", "1 ^<= \"\"", "1 ^++ 2", "\"\" ^+ \"\"",
		"^f()", "f(1, ^a, 1 / 0)", "f(^g(), a)", "f(1 ^/ 0)", "1 + ^t.f(1 + 2)", "(1 + 2) ^++ (\"\" ++ \"\")", "1 ^/ (1 - 1)", "1 ^% (2 - 2)", "(1 == 1) ^+ (1 / 1)",
	} {
		s, places := marked("const x = " + e + ";")
		_, l := check.Module(read(t, s))
		if len(l) != 1 || len(places) != 1 || l[0].At != places[0] {
			t.Errorf("%s: %v, not at %v", s, l, places)
		}
		if _, told := slowModule(read(t, s)); !slices.Equal(l, told) {
			t.Errorf("%s: %v, not %v", s, l, told)
		}
	}
	tells(t, "const x = ^a + b;", unknown)
	tells(t, "const x = f(1 ^/ 0, a);", konst)
	tells(t, "const x = 1 ^+ true == 1 + true;", typ)
	exports(t, "export const a = 1 + 2 * 3 - 4 / 2 % 2; export const b = -a; export const c = #\"abc\" + -1; export const d = !(a < b) && (c == 2 || a / 1 > 0); export const e = \"x\" ++ \"\" ++ \"y\";", `a 7 b -7 c 2 d true e "xy"`)
	exports(t, "export const a = 9223372036854775807 + 1; export const b = -a; export const c = a / -1; export const d = a % -1; export const e = a * a - 1; export const f = -7 / 2; export const g = -7 % 2;", "a -9223372036854775808 b -9223372036854775808 c -9223372036854775808 d 0 e -1 f -3 g -1")
	exports(t, `include "t" as t; export const a = t.k * 2; export const b = t.s ++ "!"; export const c = !t.y; export const d = t.s == "xyz";`, `a -14 b "xyz!" c false d true`)
	long := `"` + strings.Repeat("x", 4096) + `"`
	exports(t, "export const n = #("+long+` ++ "");`, "n 4096")
	tells(t, "const n = #("+long+` ^++ "x");`, konst)
	tells(t, "const n = #("+long+` ^++ `+long+" ++ 1);", konst)
}

// numbered are so many pieces, in each of which the letter N is its number.
func numbered(from, to int, piece string) string {
	s := ""
	for i := from; i <= to; i++ {
		s += strings.ReplaceAll(piece, "N", fmt.Sprint(i)) + " "
	}
	return s
}

// P17.1: constants and functions number 128 and 129.
func TestManyDeclarations(t *testing.T) {
	consts, funcs := numbered(1, 128, "export const cN = N;"), numbered(1, 128, "export func fN() { }")
	m := read(t, consts+funcs)
	f, l := check.Module(m)
	if len(l) > 0 || len(f.Consts) != 128 || len(f.Funcs) != 128 || f.Consts[127].Name != "c99" || f.Consts[127].Value != numberOf(99) || !check.Right(f) {
		t.Error(f, l)
	}
	tells(t, consts+"const ^d = 1;", vars)
	tells(t, consts+"const ^c1 = 1 / 0; const ^d = d; const ^f = 2; func f() { print c128; } func g() { print ^d; }", vars, vars, vars, unknown)
	tells(t, funcs+"func ^g() { }", vars)
	tells(t, funcs+"func ^f1() { x = 1; } func ^g(a: int, a: int): int { } func ^g() { }", vars, vars, vars)
	tells(t, strings.Replace(funcs, "f7() { }", "f7() { f128(); f1(); ^g(); }", 1)+"func ^g() { }", unknown, vars)
	tells(t, numbered(1, 127, "func fN() { }")+"func g() { g(); } func ^h() { }", vars)
	// The name of a function that is one too many is a function's all the same.
	tells(t, "const ^g = 1;"+funcs+"func ^g() { }", twice, vars)
	// Those that are wrong count, too.
	tells(t, "const ^f = 1; const a = 1; const ^a = 1;"+numbered(4, 128, "const cN = 1;")+"const ^b = 1; func f() { }", twice, twice, vars)
	tells(t, "func f() { } func ^f() { }"+numbered(3, 128, "func fN() { }")+"func ^g() { }", twice, vars)
	// Constants and functions are counted apart.
	tells(t, numbered(1, 100, "const cN = 1;")+numbered(1, 100, "func fN() { }"))
}

// P17.1: functions of one name, and what stands ahead of their bodies.
func TestFunctions(t *testing.T) {
	tells(t, "func f() { } func ^f() { } func g() { f(); } func ^f(a: int) { }", twice, twice)
	tells(t, "func f(a: int) { } func ^f() { x = 1; } func g() { ^f(); }", twice, args)
	tells(t, "func g() { print f() + 1; } func f(): int { return 1; } func ^f() { }", twice)
	tells(t, "func ^f(a: int, a: int) { x = 1; }", twice)
	tells(t, "func ^f(a: int, b: int, a: text): int { }", twice)
	tells(t, "func f(a: int, b: int, A: int, f: bool, c: text) { } const c = 1;")
	tells(t, "func ^f(a: int, a: int) { } func g() { f(1, 2); } func h() { ^f(); }", twice, args)
	// One thing of each alone, in the order of includes, constants, functions.
	tells(t, "func f() { ^x = 1; y = 2; } func g() { print 1; } func h(): int { return ^true; return; }", unknown, typ)
	src, at := marked(`include "t" as t; ^include "t" as t; func f() { ^x = 1; } const ^a = 1 / 0; func a() { ^return 1; } const b = ^u;`)
	m := read(t, src)
	if _, l := check.Module(m, importsOf(m)...); !slices.Equal(l, []api.Diag{{Why: twice, At: at[0]}, {Why: twice, At: at[2]}, {Why: unknown, At: at[4]}, {Why: unknown, At: at[1]}, {Why: result, At: at[3]}}) {
		t.Error(l)
	}
	params := func(n int) string { return strings.TrimSuffix(numbered(1, n, "pN: int,"), ", ") }
	tells(t, "func f("+params(64)+") { print p64; }")
	tells(t, "func ^f("+params(65)+") { x = 1; }", vars)
	tells(t, "func ^f("+params(65)+", p1: int): int { }", vars)
	tells(t, "func ^f("+params(63)+", p1: int): int { }", twice)
	tells(t, "func f("+params(64)+") { ^var a = 1; }", vars)
	tells(t, "func ^f("+params(65)+") { } func g() { ^f(); f("+strings.TrimSuffix(strings.Repeat("1, ", 65), ", ")+"); }", vars, args)
	tells(t, "func ^f("+params(65)+") { } func g() { f("+strings.TrimSuffix(strings.Repeat("1, ", 65), ", ")+"); }", vars)
}

// P17.1: what is exported, by rising names.
func TestFace(t *testing.T) {
	exports(t, "const a = 1; func f() { }", "")
	exports(t, "export const b = 1; const a = true; export const B = \"x\"; export const _ = false; export const a1 = a; export const ab = b;", `B "x" _ false a1 true ab 1 b 1`)
	exports(t, "export func g() { } func a() { } export func f(x: int, y: bool, z: text): text { return z; } export func G(a: bool): bool { return a; } export func g1(): int { return 1; }", "G(b)b f(ibt)t g()- g1()i")
	exports(t, "export const z = 1; export func a() { } export const b = 2; export func y() { }", "b 2 z 1 a()- y()-")
	exports(t, `include "t" as t; export const s = t.s; export func k(): int { return t.k; }`, `s "xyz" k()i`)
	exports(t, "func f(): int { return g(); } export func g(): int { return f(); }", "g()i")
}
