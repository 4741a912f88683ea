package print_test

import (
	"math"
	"reflect"
	"strings"
	"testing"

	"treadle/api"
	"treadle/parse"
	"treadle/print"
)

// samples have each kind of declaration, of statement and of expression.
var samples = []string{
	`include "a.m" as a; export func f(x: int): int { return a.g(x) + 1; }`,
	`include "a" as a; include "b" as b; const c = a.d;`,
	"export const c = -(a + 1); const d = true;",
	"func f() { } export func g(a: int, b: bool): text { }",
	`func f() { var a = "x"; a = !a; }`,
	"func f() { if a { b(); } else if c { return; } else { return #d; } }",
	"func f() { if a { } if a.b { } else { } }",
	"func f() { while a < b && c { print a.b(1, c()); } a.b(); }",
}

var expressions = []string{"1", "true", `"a"`, "a", "a.b", "f()", "a.f(1, b, f())", "-1", "!(a && b)", "#a", "a + b * c", "a || b == c"}

// turnFields hands in a tree with each of its fields turned, one at a time; the tree is as it was then.
func turnFields(v reflect.Value, field string, turned func(field string)) {
	old := reflect.New(v.Type()).Elem()
	old.Set(v)
	try := func(x any) {
		v.Set(reflect.ValueOf(x).Convert(v.Type()))
		turned(field)
		v.Set(old)
	}
	switch v.Kind() {
	case reflect.Struct:
		for i := range v.NumField() {
			turnFields(v.Field(i), v.Type().Field(i).Name, turned)
		}
	case reflect.Slice:
		for i := range v.Len() {
			turnFields(v.Index(i), field, turned)
		}
		turnList(v, old, func() { turned(field) })
	case reflect.String:
		for _, s := range []string{"", "a", "if", "1", "a b", "a.b", "\x00", strings.Repeat("w", 32), strings.Repeat("w", 33), strings.Repeat("p", 4096), strings.Repeat("p", 4097)} {
			try(s)
		}
	case reflect.Bool:
		try(!v.Bool())
	default:
		for n := range int64(21) {
			try(n - 1)
		}
		try(int64(math.MinInt64))
		try(int64(math.MaxInt64))
	}
}

// turnList tries a list of none, of one fewer, and of one more, a zero one and a copy.
func turnList(v, old reflect.Value, turned func()) {
	n := old.Len()
	lists := []reflect.Value{
		reflect.Zero(v.Type()), reflect.MakeSlice(v.Type(), 0, 3),
		reflect.Append(old.Slice3(0, n, n), reflect.Zero(v.Type().Elem())),
	}
	if n > 0 {
		lists = append(lists, old.Slice(1, n), old.Slice(0, n-1), reflect.Append(old.Slice3(0, n, n), old.Index(0)))
	}
	for _, l := range lists {
		v.Set(l)
		turned()
		v.Set(old)
	}
}

// P15.2: modules that differ in one field alone, in either order; those in an At, or in nil for an empty list, are the same.
func TestSame(t *testing.T) {
	same, other := map[string]int{}, map[string]int{}
	for _, src := range samples {
		m, first := read(t, src), read(t, src)
		if !print.Same(m, m) || !print.Same(m, first) || print.Same(m, api.Module{}) || print.Same(api.Module{}, m) {
			t.Error("Same:", src)
		}
		turnFields(reflect.ValueOf(&m).Elem(), "", func(field string) {
			want := alike(m, first)
			if print.Same(m, first) != want || print.Same(first, m) != want {
				t.Fatalf("%s with another %s: %v, not %v", src, field, !want, want)
			}
			if want {
				same[field]++
			} else {
				other[field]++
			}
		})
	}
	for _, field := range strings.Fields("Path Name Of Kind Op Int Bool Text Type Kids Params Result Body Else HasElse Includes Consts Funcs Export At") {
		if (other[field] == 0) != (field == "At") {
			t.Error(field, "makes another one", other[field], "times")
		}
	}
	if same["At"] == 0 || same["Kids"] == 0 || same["Body"] == 0 || same["Else"] == 0 || same["Params"] == 0 || same["Includes"] == 0 || same["Consts"] == 0 || same["Funcs"] == 0 {
		t.Error("never the same:", same)
	}
	if !print.Same(api.Module{}, api.Module{Includes: []api.Include{}, Consts: []api.Const{}, Funcs: []api.Func{}}) {
		t.Error("empty lists")
	}
}

// P15.2: the same of expressions, those that are not Right too.
func TestSameExpr(t *testing.T) {
	for _, src := range expressions {
		e, first := readExpr(t, src), readExpr(t, src)
		if !print.SameExpr(e, e) || !print.SameExpr(e, first) || print.SameExpr(e, api.Expr{}) || print.SameExpr(api.Expr{}, e) {
			t.Error("SameExpr:", src)
		}
		turnFields(reflect.ValueOf(&e).Elem(), "", func(field string) {
			if want := alike(e, first); print.SameExpr(e, first) != want || print.SameExpr(first, e) != want {
				t.Fatalf("%s with another %s: %v, not %v", src, field, !want, want)
			}
		})
	}
	if !print.SameExpr(api.Expr{}, api.Expr{At: 7, Kids: []api.Expr{}}) || print.SameExpr(api.Expr{}, api.Expr{Kids: make([]api.Expr, 1)}) {
		t.Error("zero expressions")
	}
	wrong := api.Expr{Kind: 99, Op: -1, Value: api.Value{Type: 7, Int: -1, Bool: true, Text: "a"}, Kids: make([]api.Expr, 5)}
	if !print.SameExpr(wrong, wrong) || print.SameExpr(wrong, api.Expr{Kind: 99, Op: -1}) {
		t.Error("expressions that are not right")
	}
}

// fillIn fills in all fields of a tree by chance, likely ones and others.
func (r maker) fillIn(v reflect.Value, room int) {
	switch v.Kind() {
	case reflect.Struct:
		for i := range v.NumField() {
			if r.IntN(3) > 0 {
				r.fillIn(v.Field(i), room)
			}
		}
	case reflect.Slice:
		if room > 0 {
			v.Set(reflect.MakeSlice(v.Type(), r.IntN(3), 3))
		}
		for i := range v.Len() {
			r.fillIn(v.Index(i), room-1)
		}
	case reflect.String:
		v.SetString(r.one("a", "b", "a", "if", "", "1"))
	case reflect.Bool:
		v.SetBool(r.even())
	default:
		v.SetInt(int64(r.IntN(9)) - int64(r.IntN(2)))
	}
}

// checkForm asks for all of a tree, which need not be Right.
func checkForm(t *testing.T, m api.Module, e api.Expr) {
	t.Helper()
	laid, short, levels, why := "", "", 0, api.ErrForm
	if parse.Right(m) {
		laid, short, levels, why = slowLaid(m), slowTight(m), slowLevels(tokensOf(m)), api.OK
	}
	if s, f := print.Module(m); s != laid || f != why {
		t.Fatalf("Module(%v): %q, %v, not %q, %v", m, s, f, laid, why)
	}
	if s, f := print.Tight(m); s != short || f != why {
		t.Fatalf("Tight(%v): %q, %v, not %q, %v", m, s, f, short, why)
	}
	if n := print.Levels(m); n != levels {
		t.Fatalf("Levels(%v): %d, not %d", m, n, levels)
	}
	text, why := "", api.ErrForm
	if parse.RightExpr(e) {
		text, why = slowExpr(e), api.OK
	}
	if s, f := print.Expr(e); s != text || f != why {
		t.Fatalf("Expr(%v): %q, %v, not %q, %v", e, s, f, text, why)
	}
}

// P15.1, R1: trees that differ from a source's in one field, and trees of any kind.
func TestWrongTrees(t *testing.T) {
	for _, src := range samples {
		m := read(t, src)
		turnFields(reflect.ValueOf(&m).Elem(), "", func(string) { checkForm(t, m, api.Expr{}) })
	}
	for _, src := range expressions {
		e := readExpr(t, src)
		turnFields(reflect.ValueOf(&e).Elem(), "", func(string) { checkForm(t, api.Module{}, e) })
	}
	r := newMaker(3)
	right, same := 0, 0
	for range 60000 {
		var m, n api.Module
		var e, x api.Expr
		r.fillIn(reflect.ValueOf(&m).Elem(), 1+r.IntN(4))
		r.fillIn(reflect.ValueOf(&e).Elem(), r.IntN(3))
		r.fillIn(reflect.ValueOf(&n).Elem(), 1)
		r.fillIn(reflect.ValueOf(&x).Elem(), r.IntN(2))
		checkForm(t, m, e)
		if parse.RightExpr(e) {
			right++
		}
		if got := print.SameExpr(e, x); got != alike(e, x) || print.Same(m, n) != alike(m, n) {
			t.Fatal("Same", e, x, m, n)
		} else if got {
			same++
		}
	}
	if right < 100 || same < 10 {
		t.Error("too few:", right, same)
	}
}

// P15.2: values of each type, their edges, and with another field set.
func TestValue(t *testing.T) {
	value := func(n api.Type) api.Value { return api.Value{Type: n} }
	long := strings.Repeat("x", api.MaxText)
	for _, x := range []struct {
		v    api.Value
		want string
	}{
		{value(api.TypeInt), "0"}, {api.Value{Type: api.TypeInt, Int: 1}, "1"}, {api.Value{Type: api.TypeInt, Int: 1200}, "1200"}, {api.Value{Type: api.TypeInt, Int: math.MaxInt64}, "9223372036854775807"},
		{value(api.TypeBool), "false"}, {api.Value{Type: api.TypeBool, Bool: true}, "true"},
		{value(api.TypeText), `""`}, {api.Value{Type: api.TypeText, Text: "a b"}, `"a b"`}, {api.Value{Type: api.TypeText, Text: "\n\t\"\\\x00\x1f\x7f\xff~ "}, `"\n\t\"\\\x00\x1f\x7f\xff~ "`},
		{api.Value{Type: api.TypeText, Text: "true"}, `"true"`}, {api.Value{Type: api.TypeText, Text: "ä"}, `"\xc3\xa4"`},
		{api.Value{Type: api.TypeText, Text: long}, `"` + long + `"`}, {api.Value{Type: api.TypeText, Text: strings.Repeat("\x00", api.MaxText)}, `"` + strings.Repeat(`\x00`, api.MaxText) + `"`},
	} {
		s, e := print.Value(x.v)
		if s != x.want || e != api.OK {
			t.Errorf("%v: %q, %v, not %q", x.v, s, e, x.want)
		}
		if back, f := parse.Expr(s, 1); back.Kind != api.ExprLit || back.Value != x.v || f != (api.Fault{}) {
			t.Errorf("%q is read as %v, %v", s, back, f)
		}
		if s, e := print.Expr(api.Expr{Kind: api.ExprLit, Value: x.v}); s != x.want || e != api.OK {
			t.Errorf("Expr of %v: %q, %v", x.v, s, e)
		}
	}
	for _, v := range []api.Value{
		{}, {Type: 4}, {Type: -1}, {Int: 1}, {Bool: true}, {Text: "a"},
		{Type: api.TypeInt, Int: -1}, {Type: api.TypeInt, Int: math.MinInt64}, {Type: api.TypeInt, Bool: true}, {Type: api.TypeInt, Text: "a"},
		{Type: api.TypeBool, Int: 1}, {Type: api.TypeBool, Int: -1, Bool: true}, {Type: api.TypeBool, Text: "a"},
		{Type: api.TypeText, Int: 1}, {Type: api.TypeText, Bool: true, Text: "a"}, {Type: api.TypeText, Text: long + "x"}, {Type: api.TypeText, Text: strings.Repeat("x", 1<<20)},
		{Type: 7, Int: 7, Bool: true, Text: "a"},
	} {
		if s, e := print.Value(v); s != "" || e != api.ErrForm {
			t.Errorf("%.50v: %q, %v", v, s, e)
		}
	}
}
