package check_test

import (
	"math"
	"reflect"
	"slices"
	"strings"
	"testing"

	"treadle/api"
	"treadle/check"
	"treadle/parse"
	"treadle/print"
)

// same asks for what the slow form tells of a module, and for a face that is right.
func same(t *testing.T, m api.Module, in ...api.Import) (api.Face, []api.Diag) {
	t.Helper()
	f, l := check.Module(m, in...)
	if want, told := slowModule(m, in...); !equal(f, want) || !equal(l, told) {
		s, _ := print.Module(m)
		t.Fatalf("%s\n%v\n%v %v, not %v %v", s, in, f, l, want, told)
	}
	if !check.Right(f) || len(l) > 0 && !equal(f, api.Face{}) {
		t.Fatalf("a face that is not right: %v", f)
	}
	return f, l
}

// P17.1, P17.6: modules by chance with which nothing is wrong.
func TestRandomRightModules(t *testing.T) {
	r := newMaker(1, 0)
	consts, funcs := 0, 0
	for range 4000 {
		m, in := r.module()
		f, l := same(t, m, in...)
		if len(l) > 0 {
			s, _ := print.Module(m)
			t.Fatalf("%s\n%v\n%v", s, in, l)
		}
		consts, funcs = consts+len(f.Consts), funcs+len(f.Funcs)
	}
	if consts < 2000 || funcs < 2000 {
		t.Error("too little is exported:", consts, funcs)
	}
}

// P17.1, P17.6: modules by chance with more or less that is wrong.
func TestRandomModules(t *testing.T) {
	whys := map[api.Errno]int{}
	right, many := 0, 0
	for _, slip := range []int{10, 30, 100, 300} {
		r := newMaker(uint64(slip), slip)
		for range 3000 {
			m, in := r.module()
			_, l := same(t, m, in...)
			for _, x := range l {
				whys[x.Why]++
			}
			if len(l) == 0 {
				right++
			}
			if len(l) > 1 {
				many++
			}
		}
	}
	for _, why := range []api.Errno{unknown, twice, typ, args, result, konst, ret} {
		if whys[why] < 100 {
			t.Errorf("too few of %v: %v", why, whys)
		}
	}
	if right < 2000 || many < 1000 {
		t.Error("too few:", right, many)
	}
}

// rows goes through all rows of at most so many of some texts.
func rows(most int, l []string, use func(row []string)) {
	var grow func(row []string)
	grow = func(row []string) {
		use(row)
		if len(row) == most {
			return
		}
		for _, s := range l {
			grow(append(slices.Clip(row), s))
		}
	}
	grow(nil)
}

// P17.1: all bodies of a few statements.
func TestFewStatements(t *testing.T) {
	const head = `include "t" as t; const c = 1; const s = "x"; func p() { } func g(a: int): int { return a; } `
	pieces := []string{"var a = 1;", "var a = b;", "var c = s;", "a = n;", "c = 2;", "if b {", "} else {", "while a {", "}", "return n;", "return;", "print a;", "p();", "print g(c);", "t.h(p());"}
	for _, signature := range []string{"func f(n: int, b: bool): int {", "func f(n: int, b: bool) {"} {
		good := 0
		rows(4, pieces, func(row []string) {
			m, f := parse.Module(head+signature+strings.Join(row, " ")+"}", 9999)
			if f != (api.Fault{}) {
				return
			}
			if _, l := same(t, m, importsOf(m)...); len(l) == 0 {
				good++
			}
		})
		if good < 50 {
			t.Error("too few:", good)
		}
	}
}

// P17.1: all rows of a few declarations.
func TestFewDeclarations(t *testing.T) {
	var pieces []string
	for _, name := range []string{"a", "f"} {
		for _, e := range []string{"1", `"x"`, "a", "f + a", "1 / 0", "f()", "t.k", "-t.s"} {
			pieces = append(pieces, "const "+name+" = "+e+";")
		}
	}
	pieces = append(pieces, "export const b = a;", "func f() { }", "export func f(): int { return a; }", "func a(a: int) { f(a); }", "func g() { f(); }", "export func h(): text { return a; }")
	good := 0
	rows(3, pieces, func(row []string) {
		m := read(t, `include "t" as t; `+strings.Join(row, " "))
		if _, l := same(t, m, importsOf(m)...); len(l) == 0 {
			good++
		}
	})
	if good < 50 {
		t.Error("too few:", good)
	}
}

// P17.1: all rows of a few includes, used by a constant and a function.
func TestFewIncludes(t *testing.T) {
	var pieces []string
	for _, path := range []string{"t", "u", "none"} {
		for _, name := range []string{"t", "u"} {
			pieces = append(pieces, "include \""+path+"\" as "+name+";")
		}
	}
	rows(4, pieces, func(row []string) {
		m := read(t, strings.Join(row, " ")+" const c = t.k; export const d = u.k; func f() { t.q(); } func g() { var t = u.q(); }")
		same(t, m, importsOf(m)...)
	})
}

// moved are diagnostics of which each stands at the place of one tree that another tree has for it.
func moved(l []api.Diag, from, to api.Module) (all []api.Diag) {
	old, now := places(reflect.ValueOf(&from).Elem()), places(reflect.ValueOf(&to).Elem())
	for _, x := range l {
		i := slices.IndexFunc(old, func(v reflect.Value) bool { return int(v.Int()) == x.At })
		all = append(all, api.Diag{Why: x.Why, At: int(now[i].Int())})
	}
	return all
}

// P17.8: other places, and other sources of the same module.
func TestPlaces(t *testing.T) {
	wrong, printed := 0, 0
	for _, slip := range []int{0, 30, 100} {
		r := newMaker(uint64(40+slip), slip)
		for range 500 {
			m, in := r.module()
			f, l := check.Module(m, in...)
			other := copied(m)
			r.scatter(&other)
			if g, told := check.Module(other, in...); !equal(f, g) || !equal(moved(l, m, other), told) {
				t.Fatalf("%v %v, not %v %v", g, told, f, l)
			}
			for _, at := range []int{0, -1, math.MaxInt, math.MinInt} {
				for _, v := range places(reflect.ValueOf(&other).Elem()) {
					v.SetInt(int64(at))
				}
				if g, told := check.Module(other, in...); !equal(f, g) || !equal(moved(l, m, other), told) {
					t.Fatalf("%v %v, not %v %v", g, told, f, l)
				}
			}
			laid, _ := print.Module(m)
			short, e := print.Tight(m)
			if e != api.OK {
				continue
			}
			for _, src := range []string{laid, short} {
				again := read(t, src)
				if g, told := check.Module(again, in...); !print.Same(m, again) || !equal(f, g) || !equal(moved(l, m, again), told) {
					t.Fatalf("%s: %v %v, not %v %v", src, g, told, f, l)
				}
				printed++
			}
			if len(l) > 0 {
				wrong++
			}
		}
	}
	if wrong < 300 || printed < 1500 {
		t.Error("too few:", wrong, printed)
	}
}

// leaned are the names of a module's own constants on which exported ones lean, those themselves with them.
func leaned(m api.Module) (names []string) {
	for _, c := range slices.Backward(m.Consts) {
		if c.Export || slices.Contains(names, c.Name) {
			names = append(names, c.Name)
			for _, x := range inOrder(c.Expr) {
				if x.Kind == api.ExprName && x.Of == "" {
					names = append(names, x.Name)
				}
			}
		}
	}
	return names
}

// hidden is a module with the same exports, and other bodies, constants and functions beside them.
func hidden(r maker, m api.Module) api.Module {
	names := leaned(m)
	other := copied(m)
	other.Consts = slices.DeleteFunc(other.Consts, func(c api.Const) bool { return !slices.Contains(names, c.Name) && r.even() })
	for i, c := range other.Consts {
		if !slices.Contains(names, c.Name) {
			other.Consts[i].Expr = r.leaf(nil, r.anyType())
		}
	}
	other.Funcs = slices.DeleteFunc(other.Funcs, func(f api.Func) bool { return !f.Export && r.even() })
	for i, f := range other.Funcs {
		if !f.Export {
			other.Funcs[i].Params, other.Funcs[i].Result = nil, api.Type(r.IntN(4))
		}
		other.Funcs[i].Body = nil
		if result := other.Funcs[i].Result; result != api.TypeNone {
			other.Funcs[i].Body = []api.Stmt{{Kind: api.StmtReturn, Expr: r.leaf(nil, result)}}
		}
	}
	other.Consts = append(other.Consts, api.Const{Name: "new1", Expr: r.leaf(nil, r.anyType())})
	other.Funcs = append([]api.Func{{Name: "new2", Params: []api.Param{{Name: "a", Type: api.TypeInt}}}}, other.Funcs...)
	r.scatter(&other)
	return other
}

// P17.7: what is hidden leaves the face.
func TestHidden(t *testing.T) {
	r := newMaker(7, 0)
	turned := 0
	for range 3000 {
		m, in := r.module()
		f, l := check.Module(m, in...)
		other := hidden(r, m)
		g, told := check.Module(other, in...)
		if len(l) > 0 || len(told) > 0 || !equal(f, g) {
			t.Fatalf("%v %v, not %v %v", g, told, f, l)
		}
		b, _ := check.Bytes(f)
		again, _ := check.Bytes(g)
		d, _ := check.Digest(f)
		if x, _ := check.Digest(g); string(b) != string(again) || d != x {
			t.Fatalf("% x, not % x", again, b)
		}
		if !print.Same(m, other) && len(f.Consts)+len(f.Funcs) > 0 {
			turned++
		}
	}
	if turned < 1000 {
		t.Error("too few:", turned)
	}
	// What an exported constant leans on, and a signature, are not hidden.
	exports(t, "const a = 1; export const b = a; export func f() { }", "b 1 f()-")
	exports(t, "const a = 2; export const b = a; export func f() { }", "b 2 f()-")
	exports(t, "const a = 1; export const b = a; export func f(): int { return 1; }", "b 1 f()i")
}

// nested is a text inside of so many pairs.
func nested(open string, n int, inside, shut string) string {
	return strings.Repeat(open, n) + inside + strings.Repeat(shut, n)
}

// R1: trees far deeper than any source's.
func TestDeepTrees(t *testing.T) {
	const deep = 30000
	add, not, calls := api.Expr{Kind: api.ExprLit, Value: n(1)}, api.Expr{Kind: api.ExprName, Name: "b"}, api.Expr{Kind: api.ExprName, Name: "n"}
	body := []api.Stmt{{Kind: api.StmtVar, Name: "v", Expr: api.Expr{Kind: api.ExprName, Name: "n"}}, {Kind: api.StmtReturn, Expr: api.Expr{Kind: api.ExprName, Name: "v"}}}
	for i := range deep {
		add = api.Expr{Kind: api.ExprBinary, Op: api.OpAdd, Kids: []api.Expr{add, {Kind: api.ExprLit, Value: n(1)}}}
		not = api.Expr{Kind: api.ExprUnary, Op: api.OpNot, Kids: []api.Expr{not}}
		calls = api.Expr{Kind: api.ExprCall, Name: "f", Kids: []api.Expr{calls, {Kind: api.ExprName, Name: "b"}}}
		body = []api.Stmt{{Kind: api.StmtIf, At: i, Expr: api.Expr{Kind: api.ExprName, Name: "b"}, Body: body, HasElse: true, Else: []api.Stmt{{Kind: api.StmtReturn, Expr: api.Expr{Kind: api.ExprName, Name: "c"}}}}}
	}
	m := api.Module{
		Consts: []api.Const{{Name: "c", Export: true, Expr: add}},
		Funcs:  []api.Func{{Name: "f", Params: []api.Param{{Name: "n", Type: api.TypeInt}, {Name: "b", Type: api.TypeBool}}, Result: api.TypeInt, Body: append([]api.Stmt{{Kind: api.StmtPrint, Expr: not}, {Kind: api.StmtPrint, Expr: calls}}, body...)}},
	}
	if f, l := check.Module(m); len(l) > 0 || shown(f) != "c 30001" {
		t.Error(f, l)
	}
	m.Funcs[0].Params[0].Name = "d"
	if f, l := check.Module(m); !equal(f, api.Face{}) || !slices.Equal(l, []api.Diag{{Why: unknown}}) {
		t.Error(f, l)
	}
	if v, f := check.Value(add, nil); v != n(deep+1) || f != (api.Fault{}) {
		t.Error(v, f)
	}
}

// R1: blocks within one another that each declare a variable, and have its like beside it: the first of too many ends the looking.
func TestDeepVariables(t *testing.T) {
	inside := []api.Stmt{{Kind: api.StmtPrint, Expr: api.Expr{Kind: api.ExprName, Name: "c"}}}
	for i := range 30000 {
		inside = []api.Stmt{{Kind: api.StmtVar, At: i, Name: "v" + strings.Repeat("x", i%30), Expr: api.Expr{Kind: api.ExprLit, Value: n(1)}}, {Kind: api.StmtIf, At: 30000, Expr: api.Expr{Kind: api.ExprLit, Value: truthOf(true)}, Body: inside}}
	}
	_, l := check.Module(api.Module{Funcs: []api.Func{{Name: "f", Body: inside}}})
	if !slices.Equal(l, []api.Diag{{Why: twice, At: 30000 - 31}}) {
		t.Error(l)
	}
}

// P17.1: a source of the greatest size, and of the deepest levels.
func TestLargeSources(t *testing.T) {
	src := "export func f(n: int): int { " + numbered(1, 60, "var vN = n;")
	src += strings.Repeat("v1=v2+v3*n;", (api.MaxSource-len(src)-20)/11) + "return v60; }"
	exports(t, src, "f(i)i")
	tells(t, strings.Replace(src, "return v60", "return ^v61", 1), unknown)
	tells(t, "func f(n: int) { "+nested("if n==0 { ", 63, "^m=1;", "}")+"}", unknown)
	exports(t, "export const c = "+nested("(", 64, "1", ")")+";", "c 1")
	var l []string
	for i := range 2000 {
		l = append(l, "include \"t\" as t"+strings.Repeat("t", i%20)+";")
	}
	m := read(t, strings.Join(l, ""))
	if _, told := check.Module(m, importsOf(m)...); len(told) != 1980 || told[0] != (api.Diag{Why: twice, At: len(strings.Join(l[:20], ""))}) {
		t.Error(len(told))
	}
}
