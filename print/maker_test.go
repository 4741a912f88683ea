package print_test

import (
	"math"
	"math/rand/v2"
	"slices"
	"strings"

	"treadle/api"
)

func number(n int64) api.Expr {
	return api.Expr{Kind: api.ExprLit, Value: api.Value{Type: api.TypeInt, Int: n}}
}

func truth(b bool) api.Expr {
	return api.Expr{Kind: api.ExprLit, Value: api.Value{Type: api.TypeBool, Bool: b}}
}

func text(s string) api.Expr {
	return api.Expr{Kind: api.ExprLit, Value: api.Value{Type: api.TypeText, Text: s}}
}

func name(s string) api.Expr { return api.Expr{Kind: api.ExprName, Name: s} }

func call(of, s string, kids ...api.Expr) api.Expr {
	return api.Expr{Kind: api.ExprCall, Of: of, Name: s, Kids: kids}
}

func unary(op api.Op, kid api.Expr) api.Expr {
	return api.Expr{Kind: api.ExprUnary, Op: op, Kids: []api.Expr{kid}}
}

func binary(op api.Op, left, right api.Expr) api.Expr {
	return api.Expr{Kind: api.ExprBinary, Op: op, Kids: []api.Expr{left, right}}
}

// constant is a module of one constant.
func constant(e api.Expr) api.Module {
	return api.Module{Consts: []api.Const{{Name: "c", Expr: e}}}
}

// function is a module of one function.
func function(body ...api.Stmt) api.Module {
	return api.Module{Funcs: []api.Func{{Name: "f", Body: body}}}
}

// maker makes trees that are right, by chance.
type maker struct{ *rand.Rand }

func newMaker(seed uint64) maker { return maker{rand.New(rand.NewPCG(15, seed))} }

func (r maker) one(l ...string) string { return l[r.IntN(len(l))] }

func (r maker) even() bool { return r.IntN(2) == 0 }

func (r maker) word() string {
	return r.one("a", "b", "f", "x1", "_", "_9", "iff", "Int", "as_", "return1", strings.Repeat("w", 32))
}

func (r maker) place() int { return r.IntN(100) - 50 }

func (r maker) module(room int) (m api.Module) {
	for range r.IntN(3) {
		m.Includes = append(m.Includes, api.Include{Path: r.one("", "a.m", "lib/b.m", "\x00\xff\n\t\"\\", "ä", ";"), Name: r.word(), At: r.place()})
	}
	for range r.IntN(3) {
		m.Consts = append(m.Consts, api.Const{Name: r.word(), Export: r.even(), At: r.place(), Expr: r.expr(r.IntN(room))})
	}
	for range r.IntN(3) {
		f := api.Func{Name: r.word(), Export: r.even(), At: r.place(), Result: api.Type(r.IntN(4)), Body: r.block(room)}
		for range r.IntN(4) {
			f.Params = append(f.Params, api.Param{Name: r.word(), Type: api.Type(1 + r.IntN(3))})
		}
		m.Funcs = append(m.Funcs, f)
	}
	return m
}

func (r maker) block(room int) []api.Stmt {
	l := []api.Stmt{}
	for range r.IntN(4) {
		l = append(l, r.stmt(room-1))
	}
	return l
}

func (r maker) stmt(room int) api.Stmt {
	s := api.Stmt{Kind: api.StmtKind(1 + r.IntN(7)), At: r.place()}
	if room <= 0 {
		s.Kind = []api.StmtKind{api.StmtVar, api.StmtSet, api.StmtReturn, api.StmtPrint, api.StmtDo}[r.IntN(5)]
	}
	e := r.expr(r.IntN(max(1, room)))
	switch s.Kind {
	case api.StmtVar, api.StmtSet:
		s.Name, s.Expr = r.word(), e
	case api.StmtIf:
		s.Expr, s.Body, s.HasElse = e, r.block(room-1), r.even()
		if s.HasElse && r.even() {
			s.Else = r.block(room - 1)
		} else if s.HasElse {
			s.Else = []api.Stmt{r.stmt(room - 1)}
		}
	case api.StmtWhile:
		s.Expr, s.Body = e, r.block(room-1)
	case api.StmtReturn:
		if r.even() {
			s.Expr = e
		}
	case api.StmtPrint:
		s.Expr = e
	case api.StmtDo:
		s.Expr = r.call(room - 1)
	}
	return s
}

func (r maker) call(room int) api.Expr {
	e := api.Expr{Kind: api.ExprCall, At: r.place(), Of: r.one("", "t"), Name: r.word()}
	for range r.IntN(3) {
		e.Kids = append(e.Kids, r.expr(room-1))
	}
	return e
}

func (r maker) expr(room int) api.Expr {
	if room <= 0 {
		return r.leaf()
	}
	switch r.IntN(8) {
	case 0:
		return r.leaf()
	case 1:
		return r.call(room)
	case 2, 3:
		return api.Expr{Kind: api.ExprUnary, At: r.place(), Op: api.OpNeg + api.Op(r.IntN(3)), Kids: []api.Expr{r.expr(room - 1)}}
	}
	return api.Expr{Kind: api.ExprBinary, At: r.place(), Op: api.OpOr + api.Op(r.IntN(14)), Kids: []api.Expr{r.expr(room - 1), r.expr(room - 1)}}
}

func (r maker) leaf() api.Expr {
	e := name(r.word())
	switch r.IntN(4) {
	case 0:
		e = number([]int64{0, 1, 10, math.MaxInt64}[r.IntN(4)])
	case 1:
		e = truth(r.even())
	case 2:
		e = text(r.one("", "a b", "//", "\n", "\"\\\x7f"))
	default:
		e.Of = r.one("", "", "t")
	}
	e.At = r.place()
	return e
}

// scatter is a source with the tokens of a module, with gaps of any kind, and brackets and blocks where they change nothing.
func (r maker) scatter(m api.Module) string {
	var s strings.Builder
	for _, x := range r.loose(m) {
		s.WriteString(r.one(" ", "\n", "\t", "\r", "  ", " // x\n", " // \" ( {\n", "\t// \xff \r\n") + x)
	}
	return s.String()
}

// loose are tokens that are read as a module the same as m: more than are needed, and constants among the functions.
func (r maker) loose(m api.Module) []string {
	includes := tokensOf(api.Module{Includes: m.Includes})
	var rest [][]string
	for _, c := range m.Consts {
		rest = append(rest, slices.Concat(when(c.Export, "export"), []string{"const", c.Name, "="}, r.looseExpr(c.Expr), []string{";"}))
	}
	for i, f := range m.Funcs {
		bare := f
		bare.Body = nil
		head := tokensOf(api.Module{Funcs: []api.Func{bare}})
		l := slices.Concat(head[:len(head)-2], r.looseBlock(f.Body))
		// Each of the two kinds stays in its order.
		if at := r.IntN(len(rest) + 1); i == 0 {
			rest = slices.Insert(rest, at, l)
		} else {
			rest = append(rest, l)
		}
	}
	return slices.Concat(includes, slices.Concat(rest...))
}

func (r maker) looseBlock(l []api.Stmt) []string {
	w := row{"{"}
	for _, s := range l {
		w.put(r.looseStmt(s)...)
	}
	w.put("}")
	return w
}

func (r maker) looseStmt(s api.Stmt) []string {
	var bare row
	bare.stmt(api.Stmt{Kind: s.Kind, Name: s.Name})
	switch s.Kind {
	case api.StmtIf, api.StmtWhile:
		l := slices.Concat(bare[:1], r.looseExpr(s.Expr), r.looseBlock(s.Body))
		switch {
		case s.HasElse && len(s.Else) == 1 && s.Else[0].Kind == api.StmtIf && r.even():
			l = slices.Concat(l, []string{"else"}, r.looseStmt(s.Else[0]))
		case s.HasElse:
			l = slices.Concat(l, []string{"else"}, r.looseBlock(s.Else))
		}
		return l
	case api.StmtReturn:
		if s.Expr.Kind == api.ExprNone {
			return bare
		}
	case api.StmtDo:
		return append(r.looseCall(s.Expr), ";")
	}
	return slices.Concat(bare[:len(bare)-1], r.looseExpr(s.Expr), []string{";"})
}

func (r maker) looseCall(e api.Expr) []string {
	w := row(append(nameTokens(e), "("))
	for i, kid := range e.Kids {
		w.put(when(i > 0, ",")...)
		w.put(r.looseExpr(kid)...)
	}
	w.put(")")
	return w
}

// looseExpr has brackets around all that has an operator, and now and then around all else.
func (r maker) looseExpr(e api.Expr) []string {
	l := exprTokens(e)
	switch e.Kind {
	case api.ExprCall:
		l = r.looseCall(e)
	case api.ExprUnary:
		return wrap(append([]string{opTexts[e.Op]}, r.looseExpr(e.Kids[0])...))
	case api.ExprBinary:
		return wrap(slices.Concat(r.looseExpr(e.Kids[0]), []string{opTexts[e.Op]}, r.looseExpr(e.Kids[1])))
	}
	for r.IntN(4) == 0 {
		l = wrap(l)
	}
	return l
}
