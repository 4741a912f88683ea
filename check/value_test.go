package check_test

import (
	"math"
	"strings"
	"testing"

	"treadle/api"
	"treadle/check"
	"treadle/parse"
)

func expr(t *testing.T, src string) api.Expr {
	t.Helper()
	e, f := parse.Expr(src, api.MaxFuel)
	if f != (api.Fault{}) {
		t.Fatalf("%.200s: %v", src, f)
	}
	return e
}

func bind(name string, v api.Value) api.Bind { return api.Bind{Name: name, Value: v} }

// own are constants, some of which have one name.
func own() []api.Bind {
	return []api.Bind{bind("a", n(1)), bind("b", textOf("first")), bind("b", n(2)), bind("a", n(-3)), bind("c", truthOf(true)), bind("b", textOf("last")), bind("", n(9)), bind("no word", n(9))}
}

// given are imports, some of which have one name.
func given() []api.Import {
	return []api.Import{{Name: "t", Face: faceOf("t")}, {Name: "u", Face: faceOf("u")}, {Name: "t", Face: faceOf("u")}, {Name: "", Face: faceOf("t")}, {Name: "a", Path: "x"}, {Name: "no word", Face: faceOf("u")}}
}

// values asks for a constant expression's value.
func values(t *testing.T, src string, want api.Value) {
	t.Helper()
	if v, f := check.Value(expr(t, src), own(), given()...); v != want || f != (api.Fault{}) {
		t.Errorf("%s: %v, %v, not %v", src, v, f, want)
	}
}

// noValue asks for what is wrong with a constant expression, at its mark.
func noValue(t *testing.T, src string, why api.Errno) {
	t.Helper()
	s, at := marked(src)
	if v, f := check.Value(expr(t, s), own(), given()...); v != (api.Value{}) || len(at) != 1 || f != fault(why, at[0]) {
		t.Errorf("%s: %v, %v, not %v", src, v, f, why)
	}
}

// P17.2: values, with names alike: of own the last counts, of imports the first.
func TestValue(t *testing.T) {
	for src, want := range map[string]api.Value{
		"1": n(1), "true": truthOf(true), `"x"`: textOf("x"), "(1 + 2) * 3 - 4 / 2 % 3": n(7), "-9223372036854775807 - 1": n(math.MinInt64), `#"abc" == 3 && !false`: truthOf(true),
		"a": n(-3), "b": textOf("last"), "c": truthOf(true), "a - a": n(0), "b ++ b": textOf("lastlast"), "c || a == 1": truthOf(true),
		"t.k": n(-7), "u.k": textOf("u's"), "t.s ++ u.k": textOf("xyzu's"), "t.k + u.z": n(-7), "t.y": truthOf(true),
	} {
		values(t, src, want)
	}
	for src, why := range map[string]api.Errno{
		"^d": unknown, "^t.z": unknown, "^t.g": unknown, "^a.k": unknown, "^v.k": unknown, "^k": unknown, "1 + ^x + y": unknown, "^b.a": unknown,
		"^f()": konst, "^t.q()": konst, "1 + ^f(a)": konst, "f(^x)": unknown, "f(g(1 ^/ 0))": konst, "^t.g(b, a)": konst,
		"a ^+ b": typ, "a ^++ b": typ, "c ^< c": typ, "^-b": typ, "true || 1 ^== c": typ, "false && a ^/ 0 == 1": konst, "(a ^+ b) / 0": typ, "1 ^/ 0 + b": konst, "1 ^% (a + 3)": konst,
	} {
		noValue(t, src, why)
	}
	if v, f := check.Value(expr(t, "7"), nil); v != n(7) || f != (api.Fault{}) {
		t.Error(v, f)
	}
	if v, f := check.Value(expr(t, "a"), []api.Bind{}, []api.Import{}...); v != (api.Value{}) || f != fault(unknown, 0) {
		t.Error(v, f)
	}
}

// P17.2: expressions, values and faces that are not right, in this order.
func TestValueRefused(t *testing.T) {
	right := expr(t, "a + 1")
	exprs := []api.Expr{
		{}, {Kind: 9}, {Kind: api.ExprLit}, {Kind: api.ExprLit, Value: n(-1)}, {Kind: api.ExprLit, Value: textOf(strings.Repeat("x", 4097))}, {Kind: api.ExprName}, {Kind: api.ExprName, Name: "if"}, {Kind: api.ExprName, Of: "a b", Name: "a"},
		{Kind: api.ExprBinary, Op: api.OpAdd, Kids: []api.Expr{right}}, {Kind: api.ExprUnary, Op: api.OpAdd, Kids: []api.Expr{right}}, {Kind: api.ExprBinary, Op: api.OpNot, Kids: []api.Expr{right, right}},
		{Kind: api.ExprCall, Name: "f", Kids: []api.Expr{{}}}, {Kind: api.ExprLit, Value: n(1), Kids: []api.Expr{right}}, {Kind: api.ExprBinary, Op: api.OpAdd, Kids: []api.Expr{right, {}}, At: 7},
	}
	_, wrong := sampleValues()
	bad := api.Import{Name: "x", Face: api.Face{Consts: []api.Bind{bind("b", n(1)), bind("a", n(1))}}}
	none := func(e api.Expr, why api.Errno, l []api.Bind, in ...api.Import) {
		t.Helper()
		if v, f := check.Value(e, l, in...); v != (api.Value{}) || f != fault(why, 0) {
			t.Errorf("%v %v %v: %v, %v, not %v", e, l, in, v, f, why)
		}
	}
	for _, e := range exprs {
		none(e, api.ErrForm, own(), given()...)
		none(e, api.ErrForm, []api.Bind{{}}, bad)
	}
	for _, v := range wrong {
		// Whether anything leans on it or not.
		none(right, api.ErrArg, []api.Bind{bind("a", n(1)), bind("z", v)})
		none(right, api.ErrArg, []api.Bind{bind("a", v), bind("a", n(1))}, given()...)
		none(expr(t, "1 / 0"), api.ErrArg, []api.Bind{bind("", v)})
		none(right, api.ErrArg, []api.Bind{bind("a", n(1))}, api.Import{Name: "x", Face: api.Face{Consts: []api.Bind{bind("a", v)}}})
	}
	none(right, api.ErrArg, own(), bad)
	none(right, api.ErrArg, own(), append(given(), bad)...)
	none(expr(t, "x"), api.ErrArg, own(), append(given(), api.Import{Name: "t", Face: bad.Face})...)
	none(expr(t, "x"), api.ErrArg, nil, api.Import{Name: "if", Face: api.Face{Funcs: []api.Sig{{Name: "if"}}}})
}

// P17.2: there is no bound to how many constants and imports there are.
func TestValueOfMany(t *testing.T) {
	var l []api.Bind
	var in []api.Import
	for i := range 5000 {
		l = append(l, bind("x", n(int64(i))), bind(strings.Repeat("y", i), n(1)))
		in = append(in, api.Import{Name: "x", Face: api.Face{Consts: []api.Bind{bind("c", n(int64(i)))}}})
	}
	if v, f := check.Value(expr(t, "x * 1000 + x.c"), l, in...); v != n(4999000) || f != (api.Fault{}) {
		t.Error(v, f)
	}
	if v, f := check.Value(expr(t, strings.Repeat("1+", 30000)+"1"), nil); v != n(30001) || f != (api.Fault{}) {
		t.Error(v, f)
	}
}

// P17.2: constant expressions by chance.
func TestRandomValues(t *testing.T) {
	whys := map[api.Errno]int{}
	for _, slip := range []int{0, 10, 50} {
		r := newMaker(uint64(20+slip), slip)
		for range 5000 {
			var known things
			var l []api.Bind
			var in []api.Import
			for range r.IntN(6) {
				c := bind(one(r, words...), r.valueOf(r.anyType()))
				l, known = append(l, c), known.hiding(c.Name, c.Value.Type)
			}
			for range r.IntN(3) {
				x := api.Import{Name: one(r, "a", "t"), Face: r.face()}
				for _, c := range x.Face.Consts {
					known = known.with(thing{of: x.Name, sig: api.Sig{Name: c.Name, Result: c.Value.Type}})
				}
				in = append(in, x)
			}
			m := api.Module{Consts: []api.Const{{Name: "x", Expr: r.expr(known, r.anyType(), 4, true)}}}
			r.scatter(&m)
			v, f := check.Value(m.Consts[0].Expr, l, in...)
			want, why := slowValue(m.Consts[0].Expr, l, in...)
			if v != want || f != why {
				t.Fatalf("%v %v %v: %v, %v, not %v, %v", m.Consts[0].Expr, l, in, v, f, want, why)
			}
			whys[f.Why]++
		}
	}
	for _, why := range []api.Errno{api.OK, unknown, typ, konst} {
		if whys[why] < 20 {
			t.Error("too few:", whys)
		}
	}
}
