package check_test

import (
	"cmp"
	"math/big"
	"reflect"
	"slices"
	"strings"

	"treadle/api"
	"treadle/lex"
	"treadle/parse"
)

// The slow forms say the chapter's words once more, another way: what a name means is found by looking at what stands ahead of it, each time anew, and all that is wrong is collected, of which the first counts.

// operandTypes are the rows of types that an operator takes: i, b and t.
var operandTypes = map[api.Op][]string{
	api.OpOr: {"bb"}, api.OpAnd: {"bb"}, api.OpNot: {"b"},
	api.OpAdd: {"ii"}, api.OpSub: {"ii"}, api.OpMul: {"ii"}, api.OpDiv: {"ii"}, api.OpRem: {"ii"}, api.OpNeg: {"i"},
	api.OpJoin: {"tt"}, api.OpLen: {"t"},
	api.OpLt: {"ii", "tt"}, api.OpLe: {"ii", "tt"}, api.OpGt: {"ii", "tt"}, api.OpGe: {"ii", "tt"},
	api.OpEq: {"ii", "bb", "tt"}, api.OpNe: {"ii", "bb", "tt"},
}

// resultTypes are the types that operators have; bool, where there is none here.
var resultTypes = map[api.Op]api.Type{
	api.OpAdd: api.TypeInt, api.OpSub: api.TypeInt, api.OpMul: api.TypeInt, api.OpDiv: api.TypeInt, api.OpRem: api.TypeInt, api.OpNeg: api.TypeInt, api.OpLen: api.TypeInt,
	api.OpJoin: api.TypeText,
}

func resultType(op api.Op) api.Type { return cmp.Or(resultTypes[op], api.TypeBool) }

// wrongOperand is the first operand with which no row of the operator's goes on; -1: none.
func wrongOperand(op api.Op, types []api.Type) int {
	given := ""
	for i, x := range types {
		given += "-ibt"[x : x+1]
		if !slices.ContainsFunc(operandTypes[op], func(row string) bool { return strings.HasPrefix(row, given) }) {
			return i
		}
	}
	return -1
}

// slowApply is P17.3.
func slowApply(op api.Op, l ...api.Value) (api.Value, api.Errno) {
	rows := operandTypes[op]
	if len(rows) == 0 || len(rows[0]) != len(l) || slices.ContainsFunc(l, func(v api.Value) bool { return !slowRightValue(v) }) {
		return api.Value{}, api.ErrArg
	}
	var types []api.Type
	for _, v := range l {
		types = append(types, v.Type)
	}
	if wrongOperand(op, types) >= 0 {
		return api.Value{}, api.ErrType
	}
	switch resultType(op) {
	case api.TypeInt:
		return slowNumber(op, l)
	case api.TypeText:
		if s := l[0].Text + l[1].Text; len(s) <= 4096 {
			return textOf(s), api.OK
		}
		return api.Value{}, api.ErrConst
	}
	return truthOf(slowTruth(op, l)), api.OK
}

// slowNumber reckons without bounds, and then cuts to 64 bits.
func slowNumber(op api.Op, l []api.Value) (api.Value, api.Errno) {
	a, b, n := big.NewInt(l[0].Int), big.NewInt(l[len(l)-1].Int), new(big.Int)
	if (op == api.OpDiv || op == api.OpRem) && b.Sign() == 0 {
		return api.Value{}, api.ErrConst
	}
	switch op {
	case api.OpAdd:
		n.Add(a, b)
	case api.OpSub:
		n.Sub(a, b)
	case api.OpMul:
		n.Mul(a, b)
	case api.OpDiv:
		n.Quo(a, b)
	case api.OpRem:
		n.Sub(a, n.Mul(n.Quo(a, b), b))
	case api.OpNeg:
		n.Neg(a)
	case api.OpLen:
		n.SetInt64(int64(len(l[0].Text)))
	}
	all := new(big.Int).Lsh(big.NewInt(1), 64)
	half := new(big.Int).Lsh(big.NewInt(1), 63)
	n.Mod(n.Add(n, half), all)
	return numberOf(n.Sub(n, half).Int64()), api.OK
}

func slowTruth(op api.Op, l []api.Value) bool {
	switch op {
	case api.OpNot:
		return !l[0].Bool
	case api.OpOr:
		return l[0].Bool || l[1].Bool
	case api.OpAnd:
		return l[0].Bool && l[1].Bool
	}
	order := slices.Compare([]byte(l[0].Text), []byte(l[1].Text))
	if l[0].Type == api.TypeInt {
		order = big.NewInt(l[0].Int).Cmp(big.NewInt(l[1].Int))
	}
	if l[0].Type == api.TypeBool && l[0].Bool != l[1].Bool {
		order = 1
	}
	orders := map[api.Op][]int{api.OpEq: {0}, api.OpNe: {-1, 1}, api.OpLt: {-1}, api.OpLe: {-1, 0}, api.OpGt: {1}, api.OpGe: {0, 1}}
	return slices.Contains(orders[op], order)
}

func slowRightValue(v api.Value) bool {
	switch v {
	case numberOf(v.Int), truthOf(v.Bool), textOf(v.Text):
		return len(v.Text) <= 4096
	}
	return false
}

func numberOf(n int64) api.Value { return api.Value{Type: api.TypeInt, Int: n} }

func truthOf(b bool) api.Value { return api.Value{Type: api.TypeBool, Bool: b} }

func textOf(s string) api.Value { return api.Value{Type: api.TypeText, Text: s} }

// slowRight tells whether a face is right.
func slowRight(f api.Face) bool {
	var consts, funcs []string
	for _, c := range f.Consts {
		consts = append(consts, c.Name)
		if !slowRightValue(c.Value) {
			return false
		}
	}
	for _, x := range f.Funcs {
		funcs = append(funcs, x.Name)
		if len(x.Params) > 64 || x.Result < 0 || x.Result > 3 || slices.ContainsFunc(x.Params, func(t api.Type) bool { return t < 1 || t > 3 }) {
			return false
		}
	}
	for _, l := range [][]string{consts, funcs} {
		if len(l) > 128 || !slices.IsSorted(l) || len(slices.Compact(slices.Clone(l))) != len(l) {
			return false
		}
	}
	return !slices.ContainsFunc(slices.Concat(consts, funcs), func(s string) bool { return !lex.Word(s) }) &&
		!slices.ContainsFunc(consts, func(s string) bool { return slices.Contains(funcs, s) })
}

// slow is a module with its imports.
type slow struct {
	m  api.Module
	in []api.Import
}

// slowModule is P17.1.
func slowModule(m api.Module, in ...api.Import) (api.Face, []api.Diag) {
	if !parse.Right(m) {
		return api.Face{}, []api.Diag{{Why: api.ErrForm}}
	}
	fit := len(in) == len(m.Includes)
	for i := range in {
		fit = fit && in[i].Name == m.Includes[i].Name && slowRight(in[i].Face)
	}
	if !fit {
		return api.Face{}, []api.Diag{{Why: api.ErrArg}}
	}
	s := slow{m, in}
	var told []api.Diag
	tell := func(f api.Fault) {
		if f != (api.Fault{}) {
			told = append(told, api.Diag{Why: f.Why, At: f.At})
		}
	}
	for i, x := range m.Includes {
		if slices.ContainsFunc(m.Includes[:i], func(y api.Include) bool { return x.Name == y.Name }) {
			tell(fault(api.ErrTwice, x.At))
		}
	}
	for i := range m.Consts {
		tell(s.wrongConst(i))
	}
	for i := range m.Funcs {
		tell(s.wrongFunc(i))
	}
	if len(told) > 0 {
		return api.Face{}, told
	}
	return s.face(), nil
}

// face puts each name in its place by looking for the least one that is left.
func (s slow) face() (f api.Face) {
	var names []string
	for _, c := range s.m.Consts {
		names = append(names, c.Name)
	}
	for _, x := range s.m.Funcs {
		names = append(names, x.Name)
	}
	slices.Sort(names)
	for _, name := range names {
		for i, c := range s.m.Consts {
			if c.Name == name && c.Export {
				f.Consts = append(f.Consts, api.Bind{Name: name, Value: s.value(c.Expr, i)})
			}
		}
		for _, x := range s.m.Funcs {
			if x.Name == name && x.Export {
				f.Funcs = append(f.Funcs, slowSig(x))
			}
		}
	}
	return f
}

func slowSig(x api.Func) api.Sig {
	sig := api.Sig{Name: x.Name, Result: x.Result}
	for _, p := range x.Params {
		sig.Params = append(sig.Params, p.Type)
	}
	return sig
}

// constant is what a name means where the first so many constants are known.
func (s slow) constant(of, name string, ahead int) (api.Value, bool) {
	if of == "" {
		for i, c := range s.m.Consts[:ahead] {
			if c.Name == name && s.wrongConst(i) == (api.Fault{}) {
				return s.value(c.Expr, i), true
			}
		}
		return api.Value{}, false
	}
	for _, c := range s.importOf(of).Consts {
		if c.Name == name {
			return c.Value, true
		}
	}
	return api.Value{}, false
}

// importOf is the face of the first include of a name.
func (s slow) importOf(name string) api.Face {
	for _, x := range s.in {
		if x.Name == name {
			return x.Face
		}
	}
	return api.Face{}
}

// function is what a call means.
func (s slow) function(of, name string) (api.Sig, bool) {
	l := s.importOf(of).Funcs
	if of == "" {
		l = nil
		for _, x := range s.m.Funcs[:min(128, len(s.m.Funcs))] {
			l = append(l, slowSig(x))
		}
	}
	for _, x := range l {
		if x.Name == name {
			return x, true
		}
	}
	return api.Sig{}, false
}

func (s slow) wrongConst(i int) api.Fault {
	c := s.m.Consts[i]
	switch {
	case i >= 128:
		return fault(api.ErrVars, c.At)
	case slices.ContainsFunc(s.m.Consts[:i], func(x api.Const) bool { return x.Name == c.Name }),
		slices.ContainsFunc(s.m.Funcs, func(x api.Func) bool { return x.Name == c.Name }):
		return fault(api.ErrTwice, c.At)
	}
	return s.wrongValue(c.Expr, i)
}

// inOrder are an expression's parts, each kid whole ahead of the expression.
func inOrder(e api.Expr) (l []api.Expr) {
	for _, kid := range e.Kids {
		l = append(l, inOrder(kid)...)
	}
	return append(l, e)
}

// wrongValue is the first of an expression's parts with which something is wrong: all ahead of it have values.
func (s slow) wrongValue(e api.Expr, ahead int) api.Fault {
	for _, x := range inOrder(e) {
		why := api.OK
		switch x.Kind {
		case api.ExprName:
			if _, there := s.constant(x.Of, x.Name, ahead); !there {
				why = api.ErrUnknown
			}
		case api.ExprCall:
			why = api.ErrConst
		case api.ExprUnary, api.ExprBinary:
			_, why = slowApply(x.Op, s.values(x.Kids, ahead)...)
		}
		if why != api.OK {
			return fault(why, x.At)
		}
	}
	return api.Fault{}
}

// value is that of an expression with which nothing is wrong.
func (s slow) value(e api.Expr, ahead int) api.Value {
	switch e.Kind {
	case api.ExprLit:
		return e.Value
	case api.ExprName:
		v, _ := s.constant(e.Of, e.Name, ahead)
		return v
	}
	v, _ := slowApply(e.Op, s.values(e.Kids, ahead)...)
	return v
}

func (s slow) values(l []api.Expr, ahead int) (all []api.Value) {
	for _, e := range l {
		all = append(all, s.value(e, ahead))
	}
	return all
}

// slowValue is P17.2: as if own were constants of a module, the last of a name first.
func slowValue(e api.Expr, own []api.Bind, in ...api.Import) (api.Value, api.Fault) {
	if !parse.RightExpr(e) {
		return api.Value{}, fault(api.ErrForm, 0)
	}
	for _, c := range own {
		if !slowRightValue(c.Value) {
			return api.Value{}, fault(api.ErrArg, 0)
		}
	}
	for _, x := range in {
		if !slowRight(x.Face) {
			return api.Value{}, fault(api.ErrArg, 0)
		}
	}
	s := slow{in: in}
	for i, c := range own {
		if !slices.ContainsFunc(own[i+1:], func(x api.Bind) bool { return x.Name == c.Name }) && len(s.m.Consts) < 128 {
			s.m.Consts = append(s.m.Consts, api.Const{Name: c.Name, Expr: api.Expr{Kind: api.ExprLit, Value: c.Value}})
		}
	}
	if f := s.wrongValue(e, len(s.m.Consts)); f != (api.Fault{}) {
		return api.Value{}, f
	}
	return s.value(e, len(s.m.Consts)), api.Fault{}
}

// step is a statement's number in its block; a row of steps leads from a function's body to a statement.
type step struct {
	block []api.Stmt
	i     int
}

// looked is a function that is looked at: all that is wrong with it.
type looked struct {
	slow
	f     api.Func
	vars  int
	wrong []api.Fault
}

func (s slow) wrongFunc(i int) api.Fault {
	l := &looked{slow: s, f: s.m.Funcs[i]}
	l.vars = len(l.f.Params)
	l.tell(i >= 128, api.ErrVars, l.f.At)
	l.tell(slices.ContainsFunc(s.m.Funcs[:i], func(x api.Func) bool { return x.Name == l.f.Name }), api.ErrTwice, l.f.At)
	l.tell(l.vars > 64, api.ErrVars, l.f.At)
	for j, x := range l.f.Params {
		l.tell(slices.ContainsFunc(l.f.Params[:j], func(y api.Param) bool { return x.Name == y.Name }), api.ErrTwice, l.f.At)
	}
	l.block(l.f.Body, nil)
	l.tell(l.f.Result != api.TypeNone && !slowReturns(l.f.Body), api.ErrReturn, l.f.At)
	if len(l.wrong) == 0 {
		return api.Fault{}
	}
	return l.wrong[0]
}

func (l *looked) tell(is bool, why api.Errno, at int) {
	if is {
		l.wrong = append(l.wrong, fault(why, at))
	}
}

// slowReturns finds no way through a block that has no return on it.
func slowReturns(l []api.Stmt) bool {
	return slices.ContainsFunc(l, func(s api.Stmt) bool {
		switch s.Kind {
		case api.StmtReturn:
			return true
		case api.StmtIf:
			return s.HasElse && slowReturns(s.Body) && slowReturns(s.Else)
		}
		return false
	})
}

func (l *looked) block(body []api.Stmt, around []step) {
	for i, s := range body {
		at := append(slices.Clone(around), step{body, i})
		_, known := l.variable(s.Name, at)
		expr := func() api.Type {
			l.expr(s.Expr, at)
			return l.typeOf(s.Expr, at)
		}
		switch s.Kind {
		case api.StmtVar:
			l.tell(expr() == api.TypeNone, api.ErrType, s.Expr.At)
			l.tell(known, api.ErrTwice, s.At)
			l.vars++
			l.tell(l.vars > 64, api.ErrVars, s.At)
		case api.StmtSet:
			l.tell(!known, api.ErrUnknown, s.At)
			t, _ := l.variable(s.Name, at)
			l.tell(expr() != t, api.ErrType, s.Expr.At)
		case api.StmtIf, api.StmtWhile:
			l.tell(expr() != api.TypeBool, api.ErrType, s.Expr.At)
			l.block(s.Body, at)
			l.block(s.Else, at)
		case api.StmtReturn:
			bare := s.Expr.Kind == api.ExprNone
			l.tell(bare != (l.f.Result == api.TypeNone), api.ErrResult, s.At)
			if !bare {
				l.tell(expr() != l.f.Result, api.ErrType, s.Expr.At)
			}
		case api.StmtPrint:
			l.tell(expr() == api.TypeNone, api.ErrType, s.Expr.At)
		case api.StmtDo:
			expr()
		}
	}
}

// variable is the one of a name that is known where a row of steps leads: its `var` stands ahead of one of them, in the same block.
func (l *looked) variable(name string, at []step) (api.Type, bool) {
	for i, x := range at {
		for j, s := range x.block[:x.i] {
			if s.Kind == api.StmtVar && s.Name == name {
				return l.typeOf(s.Expr, append(slices.Clone(at[:i]), step{x.block, j})), true
			}
		}
	}
	for _, x := range l.f.Params {
		if x.Name == name {
			return x.Type, true
		}
	}
	return api.TypeNone, false
}

// meant is what a name means, if it means anything.
func (l *looked) meant(e api.Expr, at []step) (api.Type, bool) {
	if t, known := l.variable(e.Name, at); known && e.Of == "" {
		return t, true
	}
	v, there := l.constant(e.Of, e.Name, len(l.m.Consts))
	return v.Type, there
}

// typeOf is an expression's type, whatever is wrong with its parts.
func (l *looked) typeOf(e api.Expr, at []step) api.Type {
	switch e.Kind {
	case api.ExprLit:
		return e.Value.Type
	case api.ExprName:
		t, _ := l.meant(e, at)
		return t
	case api.ExprCall:
		x, _ := l.function(e.Of, e.Name)
		return x.Result
	}
	return resultType(e.Op)
}

func (l *looked) expr(e api.Expr, at []step) {
	switch e.Kind {
	case api.ExprName:
		_, there := l.meant(e, at)
		l.tell(!there, api.ErrUnknown, e.At)
	case api.ExprCall:
		x, there := l.function(e.Of, e.Name)
		l.tell(!there, api.ErrUnknown, e.At)
		l.tell(len(x.Params) != len(e.Kids), api.ErrArgs, e.At)
		for i, kid := range e.Kids {
			l.expr(kid, at)
			l.tell(i < len(x.Params) && l.typeOf(kid, at) != x.Params[i], api.ErrType, kid.At)
		}
	case api.ExprUnary, api.ExprBinary:
		var types []api.Type
		for _, kid := range e.Kids {
			l.expr(kid, at)
			types = append(types, l.typeOf(kid, at))
		}
		if i := wrongOperand(e.Op, types); i >= 0 {
			l.tell(true, api.ErrType, e.Kids[i].At)
		}
	}
}

func fault(why api.Errno, at int) api.Fault { return api.Fault{Why: why, At: at} }

// equal tells whether two answers are the same, an empty list and none being one.
func equal[T any](a, b T) bool { return equalValues(reflect.ValueOf(a), reflect.ValueOf(b)) }

func equalValues(a, b reflect.Value) bool {
	switch a.Kind() {
	case reflect.Struct:
		for i := range a.NumField() {
			if !equalValues(a.Field(i), b.Field(i)) {
				return false
			}
		}
		return true
	case reflect.Slice:
		if a.Len() != b.Len() {
			return false
		}
		for i := range a.Len() {
			if !equalValues(a.Index(i), b.Index(i)) {
				return false
			}
		}
		return true
	}
	return a.Equal(b)
}
