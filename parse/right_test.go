package parse_test

import (
	"math"
	"math/rand/v2"
	"reflect"
	"strconv"
	"strings"
	"testing"

	"treadle/api"
	"treadle/lex"
	"treadle/parse"
)

// slowRight is G3: whether the source that is written of the tree's fields, by the table, has this tree. A field that may not be is written as it is, or not at all, and so is read as another tree, or none.
func slowRight(m api.Module) bool {
	var w writer
	w.module(m)
	back, f := parse.Module(strings.Join(w, " "), 1<<20)
	return f == api.Fault{} && alike(back, m)
}

func slowRightExpr(e api.Expr) bool {
	var w writer
	w.expr(e)
	back, f := parse.Expr(strings.Join(w, " "), 1<<20)
	return f == api.Fault{} && alike(back, e)
}

// writer is tokens; brackets stand around every operand that is an operator's.
type writer []string

func (w *writer) put(s ...string) { *w = append(*w, s...) }

func (w *writer) module(m api.Module) {
	for _, in := range m.Includes {
		path, _ := lex.Quote(in.Path)
		w.put("include", path, "as", in.Name, ";")
	}
	for _, c := range m.Consts {
		w.export(c.Export)
		w.put("const", c.Name, "=")
		w.expr(c.Expr)
		w.put(";")
	}
	for _, f := range m.Funcs {
		w.export(f.Export)
		w.put("func", f.Name, "(")
		for i, x := range f.Params {
			if i > 0 {
				w.put(",")
			}
			w.put(x.Name, ":", typeText(x.Type))
		}
		w.put(")")
		if f.Result != api.TypeNone {
			w.put(":", typeText(f.Result))
		}
		w.block(f.Body)
	}
}

func typeText(t api.Type) string {
	for s, x := range typeNames {
		if x == t {
			return s
		}
	}
	return "no type"
}

func (w *writer) export(b bool) {
	if b {
		w.put("export")
	}
}

func (w *writer) block(l []api.Stmt) {
	w.put("{")
	for _, s := range l {
		w.stmt(s)
	}
	w.put("}")
}

func (w *writer) stmt(s api.Stmt) {
	switch s.Kind {
	case api.StmtVar:
		w.put("var", s.Name, "=")
	case api.StmtSet:
		w.put(s.Name, "=")
	case api.StmtIf:
		w.put("if")
	case api.StmtWhile:
		w.put("while")
	case api.StmtReturn:
		w.put("return")
	case api.StmtPrint:
		w.put("print")
	case api.StmtDo:
	default:
		w.put("no statement")
	}
	if s.Kind != api.StmtReturn || s.Expr.Kind != api.ExprNone {
		w.expr(s.Expr)
	}
	if s.Kind != api.StmtIf && s.Kind != api.StmtWhile {
		w.put(";")
		return
	}
	w.block(s.Body)
	if s.Kind == api.StmtIf && s.HasElse {
		w.put("else")
		w.block(s.Else)
	}
}

func (w *writer) expr(e api.Expr) {
	switch e.Kind {
	case api.ExprLit:
		w.literal(e.Value)
	case api.ExprName, api.ExprCall:
		if e.Of != "" {
			w.put(e.Of, ".")
		}
		w.put(e.Name)
		if e.Kind == api.ExprCall {
			w.put("(")
			for i, kid := range e.Kids {
				if i > 0 {
					w.put(",")
				}
				w.expr(kid)
			}
			w.put(")")
		}
	case api.ExprUnary, api.ExprBinary:
		for i, kid := range e.Kids {
			if i > 0 || e.Kind == api.ExprUnary {
				w.put(opText(e.Op))
			}
			w.put("(")
			w.expr(kid)
			w.put(")")
		}
	default:
		w.put("no expression")
	}
}

func (w *writer) literal(v api.Value) {
	switch v.Type {
	case api.TypeInt:
		w.put(strconv.FormatInt(v.Int, 10))
	case api.TypeBool:
		w.put(strconv.FormatBool(v.Bool))
	case api.TypeText:
		s, _ := lex.Quote(v.Text)
		w.put(s)
	default:
		w.put("no value")
	}
}

func opText(op api.Op) string {
	for s, x := range aheads {
		if x == op {
			return s
		}
	}
	if s, ok := binarySigns[op]; ok {
		return s
	}
	return "no operator"
}

// turnFields hands in a tree with each of its fields turned, one at a time; the tree is as it was then.
func turnFields(v reflect.Value, field string, turned func(field string)) {
	old := reflect.New(v.Type()).Elem()
	old.Set(v)
	try := func(x any) {
		v.Set(reflect.ValueOf(x).Convert(v.Type()))
		turned(field)
		v.Set(old)
	}
	switch v.Kind() {
	case reflect.Struct:
		for i := range v.NumField() {
			turnFields(v.Field(i), v.Type().Field(i).Name, turned)
		}
	case reflect.Slice:
		for i := range v.Len() {
			turnFields(v.Index(i), field, turned)
		}
		turnList(v, old, func() { turned(field) })
	case reflect.String:
		for _, s := range []string{"", "a", "if", "include", "1", "a b", "a.b", " a", "a ", "a//", "a;", "-", "\"a\"", "a\xff", "\x00", strings.Repeat("w", 32), strings.Repeat("w", 33), strings.Repeat("p", 4096), strings.Repeat("p", 4097)} {
			try(s)
		}
	case reflect.Bool:
		try(!v.Bool())
	default:
		for n := range int64(21) {
			try(n - 1)
		}
		try(int64(math.MinInt64))
		try(int64(math.MaxInt64))
	}
}

// turnList tries a list of none, of one fewer, and of one more, a zero one and a copy.
func turnList(v, old reflect.Value, turned func()) {
	n := old.Len()
	lists := []reflect.Value{reflect.Zero(v.Type()), reflect.Append(old.Slice3(0, n, n), reflect.Zero(v.Type().Elem()))}
	if n > 0 {
		lists = append(lists, old.Slice(1, n), old.Slice(0, n-1), reflect.Append(old.Slice3(0, n, n), old.Index(0)))
	}
	for _, l := range lists {
		v.Set(l)
		turned()
		v.Set(old)
	}
}

// G3: trees that differ from a source's in one field.
func TestTurnedFields(t *testing.T) {
	right, wrong := map[string]int{}, map[string]int{}
	for _, src := range samples {
		m, f := parse.Module(src, 999)
		if f != (api.Fault{}) || !parse.Right(m) {
			t.Fatal(src, f)
		}
		turnFields(reflect.ValueOf(&m).Elem(), "", func(field string) {
			got := parse.Right(m)
			if want := slowRight(m); got != want {
				t.Fatalf("%s with another %s: %v: %v", src, field, m, got)
			}
			if got {
				right[field]++
			} else {
				wrong[field]++
			}
		})
		if !parse.Right(m) {
			t.Fatal("the tree is another one:", src)
		}
	}
	for _, field := range strings.Fields("Path Name Of Kind Op Int Bool Text Type Kids Result Params Body Else HasElse Includes Consts Funcs Export Expr Value At") {
		free := strings.Contains(" Export At Expr Value ", " "+field+" ")
		if wrong[field] == 0 != free {
			t.Error(field, "is wrong", wrong[field], "times")
		}
		if field != "Expr" && field != "Value" && right[field] == 0 {
			t.Error(field, "is never right")
		}
	}
}

// G3: the same of expressions alone.
func TestTurnedExpressions(t *testing.T) {
	for _, src := range []string{"1", "true", `"a"`, "a", "a.b", "f()", "a.f(1, b, f())", "-1", "!(a && b)", "#a", "a + b * c", "a || b == c"} {
		e, f := parse.Expr(src, 99)
		if f != (api.Fault{}) || !parse.RightExpr(e) {
			t.Fatal(src, f)
		}
		turnFields(reflect.ValueOf(&e).Elem(), "", func(field string) {
			if got, want := parse.RightExpr(e), slowRightExpr(e); got != want {
				t.Fatalf("%s with another %s: %v: %v", src, field, e, got)
			}
		})
	}
}

// G3: trees that are said to be right, or not, one by one.
func TestRight(t *testing.T) {
	one, a := number(0, 1), name(0, "", "a")
	fn := func(s ...api.Stmt) api.Module { return api.Module{Funcs: []api.Func{{Name: "f", Body: s}}} }
	con := func(e api.Expr) api.Module { return api.Module{Consts: []api.Const{{Name: "c", Expr: e}}} }
	for i, m := range []api.Module{
		{}, {Includes: []api.Include{}, Consts: []api.Const{}, Funcs: []api.Func{}},
		{Includes: []api.Include{{Name: "a", At: -7}, {Name: "a", Path: strings.Repeat("\xff", 4096)}}},
		con(number(-1, math.MaxInt64)), con(text(1, strings.Repeat("\x00", 4096))), con(truth(0, false)), con(call(0, "", "f", make([]api.Expr, 0)...)),
		fn(), fn(api.Stmt{Kind: api.StmtReturn}), fn(api.Stmt{Kind: api.StmtReturn, Expr: api.Expr{At: 9, Kids: []api.Expr{}}}), fn(api.Stmt{Kind: api.StmtReturn, Expr: one}),
		fn(api.Stmt{Kind: api.StmtIf, Expr: a, HasElse: true}), fn(api.Stmt{Kind: api.StmtIf, Expr: a, Else: []api.Stmt{}}),
		fn(api.Stmt{Kind: api.StmtIf, Expr: a, HasElse: true, Else: []api.Stmt{{Kind: api.StmtIf, Expr: a}}}),
		fn(api.Stmt{Kind: api.StmtDo, Expr: call(0, "a", "f", one)}), fn(api.Stmt{Kind: api.StmtWhile, Expr: one}),
	} {
		if !parse.Right(m) {
			t.Errorf("%d is not right: %v", i, m)
		}
	}
	for i, m := range []api.Module{
		{Includes: []api.Include{{}}}, {Includes: []api.Include{{Name: "if"}}}, {Includes: []api.Include{{Name: "a", Path: strings.Repeat("a", 4097)}}},
		{Consts: []api.Const{{Name: "c"}}}, {Consts: []api.Const{{Expr: one}}}, {Consts: []api.Const{{Name: "true", Expr: one}}}, {Funcs: []api.Func{{}}}, {Funcs: []api.Func{{Name: "1"}}},
		{Funcs: []api.Func{{Name: "f", Result: 4}}}, {Funcs: []api.Func{{Name: "f", Result: -1}}}, {Funcs: []api.Func{{Name: "f", Params: []api.Param{{Name: "a"}}}}}, {Funcs: []api.Func{{Name: "f", Params: []api.Param{{Type: api.TypeInt}}}}},
		{Funcs: []api.Func{{Name: "f", Params: []api.Param{{Name: "a", Type: 4}}}}},
		con(number(0, -1)), con(number(0, math.MinInt64)), con(text(0, strings.Repeat("a", 4097))), con(api.Expr{}), con(api.Expr{Kind: api.ExprLit}), con(api.Expr{Kind: 6}), con(api.Expr{Kind: -1}),
		con(api.Expr{Kind: api.ExprLit, Value: api.Value{Type: api.TypeBool, Bool: true, Int: 1}}), con(api.Expr{Kind: api.ExprLit, Value: api.Value{Type: api.TypeInt, Text: "a"}}), con(api.Expr{Kind: api.ExprLit, Value: api.Value{Type: api.TypeText, Bool: true}}),
		con(name(0, "", "")), con(name(0, "a", "")), con(name(0, "if", "a")), con(name(0, "a.b", "c")),
		con(unary(0, api.OpAdd, one)), con(unary(0, api.OpNone, one)), con(unary(0, 18, one)), con(binary(0, api.OpNeg, one, one)), con(binary(0, api.OpNone, one, one)), con(binary(0, api.OpAdd, one, api.Expr{})),
		con(api.Expr{Kind: api.ExprUnary, Op: api.OpNeg}), con(api.Expr{Kind: api.ExprUnary, Op: api.OpNeg, Kids: []api.Expr{one, one}}), con(api.Expr{Kind: api.ExprBinary, Op: api.OpAdd, Kids: []api.Expr{one}}), con(api.Expr{Kind: api.ExprBinary, Op: api.OpAdd, Kids: []api.Expr{one, one, one}}),
		con(call(0, "", "f", api.Expr{})), con(call(0, "", "")),
		fn(api.Stmt{}), fn(api.Stmt{Kind: 8}), fn(api.Stmt{Kind: -1}), fn(api.Stmt{Kind: api.StmtVar, Name: "a"}), fn(api.Stmt{Kind: api.StmtVar, Expr: one}), fn(api.Stmt{Kind: api.StmtSet, Name: "if", Expr: one}),
		fn(api.Stmt{Kind: api.StmtReturn, Expr: api.Expr{Name: "a"}}), fn(api.Stmt{Kind: api.StmtReturn, Expr: api.Expr{Of: "a"}}), fn(api.Stmt{Kind: api.StmtReturn, Expr: api.Expr{Op: 1}}), fn(api.Stmt{Kind: api.StmtReturn, Expr: api.Expr{Kids: []api.Expr{{}}}}), fn(api.Stmt{Kind: api.StmtReturn, Expr: api.Expr{Value: api.Value{Bool: true}}}), fn(api.Stmt{Kind: api.StmtReturn, Name: "a"}),
		fn(api.Stmt{Kind: api.StmtPrint}), fn(api.Stmt{Kind: api.StmtDo, Expr: a}), fn(api.Stmt{Kind: api.StmtDo}), fn(api.Stmt{Kind: api.StmtWhile}), fn(api.Stmt{Kind: api.StmtIf}),
		fn(api.Stmt{Kind: api.StmtIf, Expr: a, Else: []api.Stmt{{Kind: api.StmtReturn}}}), fn(api.Stmt{Kind: api.StmtWhile, Expr: a, HasElse: true}), fn(api.Stmt{Kind: api.StmtReturn, Body: []api.Stmt{{Kind: api.StmtReturn}}}), fn(api.Stmt{Kind: api.StmtPrint, Expr: a, HasElse: true}),
		fn(api.Stmt{Kind: api.StmtIf, Expr: a, Body: []api.Stmt{{}}}), fn(api.Stmt{Kind: api.StmtIf, Expr: a, HasElse: true, Else: []api.Stmt{{}}}), fn(api.Stmt{Kind: api.StmtWhile, Expr: a, Body: []api.Stmt{{Kind: api.StmtReturn}, {}}}),
	} {
		if parse.Right(m) {
			t.Errorf("%d is right: %v", i, m)
		}
	}
	if parse.RightExpr(api.Expr{}) || parse.RightExpr(number(0, -1)) || !parse.RightExpr(number(-5, 0)) {
		t.Error("expressions")
	}
}

// G3, R1: trees of as many levels as one likes, and of sources of any length.
func TestGreatTrees(t *testing.T) {
	const n = 65000
	up, left, right, args := number(0, 1), number(0, 1), number(0, 1), number(0, 1)
	block, chain := []api.Stmt{{Kind: api.StmtReturn}}, []api.Stmt{{Kind: api.StmtReturn}}
	for range n {
		up, left, right = unary(0, api.OpNeg, up), binary(0, api.OpSub, left, number(0, 1)), binary(0, api.OpSub, number(0, 1), right)
		args = call(0, "a", "f", number(0, 1), args)
		block = []api.Stmt{{Kind: api.StmtWhile, Expr: name(0, "", "a"), Body: block}}
		chain = []api.Stmt{{Kind: api.StmtIf, Expr: name(0, "", "a"), HasElse: true, Else: chain}}
	}
	m := api.Module{Consts: []api.Const{{Name: "c", Expr: up}, {Name: "c", Expr: left}, {Name: "c", Expr: right}, {Name: "c", Expr: args}}, Funcs: []api.Func{{Name: "f", Body: block}, {Name: "f", Body: chain}}}
	if !parse.Right(m) || !parse.RightExpr(up) || !parse.RightExpr(left) || !parse.RightExpr(right) || !parse.RightExpr(args) {
		t.Error("deep trees")
	}
	deepest := func(l []api.Stmt) *api.Stmt {
		for len(l[0].Body)+len(l[0].Else) > 0 {
			if len(l[0].Body) > 0 {
				l = l[0].Body
			} else {
				l = l[0].Else
			}
		}
		return &l[0]
	}
	for _, l := range [][]api.Stmt{block, chain} {
		deepest(l).Kind = api.StmtPrint
		if parse.Right(m) {
			t.Error("a deep fault")
		}
		deepest(l).Kind = api.StmtReturn
	}
	wide := api.Module{Includes: make([]api.Include, n)}
	for i := range wide.Includes {
		wide.Includes[i] = api.Include{Path: "a", Name: "a"}
	}
	if !parse.Right(wide) {
		t.Error("a wide tree")
	}
	if wide.Includes[n-1].Name = "as"; parse.Right(wide) {
		t.Error("the last of many is wrong")
	}
}

// randomTree fills in all fields of a tree by chance, likely ones and others.
func randomTree(r *rand.Rand, v reflect.Value, room int) {
	switch v.Kind() {
	case reflect.Struct:
		for i := range v.NumField() {
			if r.IntN(3) > 0 {
				randomTree(r, v.Field(i), room)
			}
		}
	case reflect.Slice:
		if room > 0 {
			v.Set(reflect.MakeSlice(v.Type(), r.IntN(3), 3))
		}
		for i := range v.Len() {
			randomTree(r, v.Index(i), room-1)
		}
	case reflect.String:
		v.SetString(one(r, []string{"a", "b", "f", "a", "if", "", "1", "a.b"}))
	case reflect.Bool:
		v.SetBool(r.IntN(2) == 0)
	default:
		v.SetInt(int64(r.IntN(9)) - int64(r.IntN(2)))
	}
}

// G3, R1: trees of any kind.
func TestRandomTrees(t *testing.T) {
	r := rand.New(rand.NewPCG(14, 7))
	right := 0
	for range 60000 {
		var m api.Module
		randomTree(r, reflect.ValueOf(&m).Elem(), 1+r.IntN(4))
		if got, want := parse.Right(m), slowRight(m); got != want {
			t.Fatalf("%v: %v", m, got)
		}
		var e api.Expr
		randomTree(r, reflect.ValueOf(&e).Elem(), r.IntN(3))
		got := parse.RightExpr(e)
		if want := slowRightExpr(e); got != want {
			t.Fatalf("%v: %v", e, got)
		}
		if got {
			right++
		}
	}
	if right < 100 {
		t.Error("too few that are right:", right)
	}
}

// G5: what Module tells is Right, and is read again of what is written of it.
func TestToldTreesAreRight(t *testing.T) {
	r := rand.New(rand.NewPCG(14, 8))
	for range 1500 {
		src := spaced(r, theGrammar.derive(r, &node{what: 'r', text: "Module"}, 20))
		m, f := parse.Module(src, 1<<20)
		if f != (api.Fault{}) || !parse.Right(m) || !slowRight(m) {
			t.Fatalf("%q: %v", src, f)
		}
		src = spaced(r, theGrammar.derive(r, &node{what: 'r', text: "Expr"}, 20))
		e, f := parse.Expr(src, 1<<20)
		if f != (api.Fault{}) || !parse.RightExpr(e) || !slowRightExpr(e) {
			t.Fatalf("%q: %v", src, f)
		}
	}
}
