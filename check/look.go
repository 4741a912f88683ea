package check

import "treadle/api"

// looker goes over a function's body, and keeps the first thing that is wrong. It goes on to the statement's end, so that few calls have to ask.
type looker struct {
	*block // the scope in which it looks
	result api.Type
	vars   int // how many there are so far, parameters and those of blocks that have ended, too
	fault  api.Fault
}

func (l *looker) wrong(why api.Errno, at int) {
	if l.fault.Why == api.OK {
		l.fault = api.Fault{Why: why, At: at}
	}
}

// body looks at a block's statements, in a scope of its own.
func (l *looker) body(statements []api.Stmt) {
	around := l.block
	l.block = around.within()
	for _, s := range statements {
		if l.fault.Why != api.OK {
			break
		}
		l.statement(s)
	}
	l.block = around
}

func (l *looker) statement(s api.Stmt) {
	switch s.Kind {
	case api.StmtVar:
		l.newVariable(s)
	case api.StmtSet:
		t, known := l.variable(s.Name)
		if !known {
			l.wrong(api.ErrUnknown, s.At)
		}
		l.must(s.Expr, t)
	case api.StmtIf, api.StmtWhile:
		l.must(s.Expr, api.TypeBool)
		l.body(s.Body)
		l.body(s.Else)
	case api.StmtReturn:
		l.leave(s)
	case api.StmtPrint:
		l.typed(s.Expr)
	case api.StmtDo:
		l.expr(s.Expr)
	}
}

func (l *looker) newVariable(s api.Stmt) {
	t := l.typed(s.Expr)
	if _, known := l.variable(s.Name); known {
		l.wrong(api.ErrTwice, s.At)
	}
	l.vars++
	if l.vars > api.MaxVars {
		l.wrong(api.ErrVars, s.At)
	}
	l.declare(s.Name, t)
}

// leave looks at a return.
func (l *looker) leave(s api.Stmt) {
	gives := s.Expr.Kind != api.ExprNone
	if gives != (l.result != api.TypeNone) {
		l.wrong(api.ErrResult, s.At)
	}
	if gives {
		l.must(s.Expr, l.result)
	}
}

// must looks at an expression that must have a type.
func (l *looker) must(e api.Expr, t api.Type) {
	if l.expr(e) != t {
		l.wrong(api.ErrType, e.At)
	}
}

// typed is the type of an expression that must have one.
func (l *looker) typed(e api.Expr) api.Type {
	t := l.expr(e)
	if t == api.TypeNone {
		l.wrong(api.ErrType, e.At)
	}
	return t
}

// expr looks at an expression, and is its type: none, if it is a call without a result.
func (l *looker) expr(e api.Expr) api.Type {
	switch e.Kind {
	case api.ExprLit:
		return e.Value.Type
	case api.ExprName:
		return l.name(e)
	case api.ExprCall:
		return l.call(e)
	}
	var types []api.Type
	for _, kid := range e.Kids {
		types = append(types, l.expr(kid))
	}
	if i := unfit(e.Op, types...); i >= 0 {
		l.wrong(api.ErrType, e.Kids[i].At)
	}
	return made(e.Op)
}

func (l *looker) name(e api.Expr) api.Type {
	if e.Of == "" {
		if t, known := l.variable(e.Name); known {
			return t
		}
	}
	v, there := l.constant(e.Of, e.Name)
	if !there {
		l.wrong(api.ErrUnknown, e.At)
	}
	return v.Type
}

func (l *looker) call(e api.Expr) api.Type {
	f, there := l.function(e.Of, e.Name)
	if !there {
		l.wrong(api.ErrUnknown, e.At)
		return api.TypeNone
	}
	if len(e.Kids) != len(f.Params) {
		l.wrong(api.ErrArgs, e.At)
		return f.Result
	}
	for i, kid := range e.Kids {
		l.must(kid, f.Params[i])
	}
	return f.Result
}
