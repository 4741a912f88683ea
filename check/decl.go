package check

import "treadle/api"

// include makes the faces of includes known, and tells what is wrong with these.
func (s *module) include(l []api.Include, imports []api.Import) []api.Diag {
	first := firsts(l, includeName)
	var told []api.Diag
	for i, in := range l {
		if first[in.Name] != i {
			told = append(told, api.Diag{Why: api.ErrTwice, At: in.At})
			continue
		}
		s.faces[in.Name] = imports[i].Face
	}
	return told
}

// reckonAll makes a module's constants known, each behind those ahead of it, and tells what is wrong with them.
func (s *module) reckonAll(m api.Module) []api.Diag {
	consts, funcs := firsts(m.Consts, constName), firsts(m.Funcs, funcName)
	var told []api.Diag
	for i, c := range m.Consts {
		var v api.Value
		var f api.Fault
		_, isFunc := funcs[c.Name]
		switch {
		case i >= api.MaxDecls:
			f = api.Fault{Why: api.ErrVars, At: c.At}
		case isFunc || consts[c.Name] != i:
			f = api.Fault{Why: api.ErrTwice, At: c.At}
		default:
			v, f = s.reckon(c.Expr)
		}
		if f.Why != api.OK {
			told = append(told, api.Diag{Why: f.Why, At: f.At})
			continue
		}
		s.consts[c.Name] = v
	}
	return told
}

// reckon is the value of a constant expression, or the first thing that is wrong with it.
func (s *module) reckon(e api.Expr) (api.Value, api.Fault) {
	if e.Kind == api.ExprLit {
		return e.Value, api.Fault{}
	}
	if e.Kind == api.ExprName {
		v, there := s.constant(e.Of, e.Name)
		if !there {
			return api.Value{}, api.Fault{Why: api.ErrUnknown, At: e.At}
		}
		return v, api.Fault{}
	}
	var l []api.Value
	for _, kid := range e.Kids {
		v, f := s.reckon(kid)
		if f.Why != api.OK {
			return api.Value{}, f
		}
		l = append(l, v)
	}
	if e.Kind == api.ExprCall {
		return api.Value{}, api.Fault{Why: api.ErrConst, At: e.At}
	}
	v, why := Apply(e.Op, l...)
	if why != api.OK {
		return api.Value{}, api.Fault{Why: why, At: e.At}
	}
	return v, api.Fault{}
}

// lookAtAll tells what is wrong with functions.
func (s *module) lookAtAll(l []api.Func) []api.Diag {
	first := firsts(l, funcName)
	// A call may stand ahead of what it calls.
	for i, f := range l[:min(len(l), api.MaxDecls)] {
		if first[f.Name] == i {
			s.funcs[f.Name] = sigOf(f)
		}
	}
	var told []api.Diag
	for i, f := range l {
		var wrong api.Fault
		switch {
		case i >= api.MaxDecls:
			wrong = api.Fault{Why: api.ErrVars, At: f.At}
		case first[f.Name] != i:
			wrong = api.Fault{Why: api.ErrTwice, At: f.At}
		default:
			wrong = s.lookAt(f)
		}
		if wrong.Why != api.OK {
			told = append(told, api.Diag{Why: wrong.Why, At: wrong.At})
		}
	}
	return told
}

// lookAt is the first thing that is wrong with a function.
func (s *module) lookAt(f api.Func) api.Fault {
	switch {
	case len(f.Params) > api.MaxVars:
		return api.Fault{Why: api.ErrVars, At: f.At}
	case len(firsts(f.Params, paramName)) < len(f.Params):
		return api.Fault{Why: api.ErrTwice, At: f.At}
	}
	l := &looker{block: &block{scope: s}, result: f.Result, vars: len(f.Params)}
	for _, x := range f.Params {
		l.declare(x.Name, x.Type)
	}
	l.body(f.Body)
	if f.Result != api.TypeNone && !returns(f.Body) {
		l.wrong(api.ErrReturn, f.At)
	}
	return l.fault
}

// returns tells whether a block returns.
func returns(l []api.Stmt) bool {
	for _, s := range l {
		if s.Kind == api.StmtReturn || s.HasElse && returns(s.Body) && returns(s.Else) {
			return true
		}
	}
	return false
}
