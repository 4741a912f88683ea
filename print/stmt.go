package print

import "treadle/api"

func (p *printer) block(l []api.Stmt) {
	p.open("{")
	p.blocks++
	for _, s := range l {
		p.line()
		p.stmt(s)
	}
	p.blocks--
	p.line()
	p.shut("}")
}

func (p *printer) stmt(s api.Stmt) {
	switch s.Kind {
	case api.StmtVar:
		p.put("var", blank, s.Name)
		p.given(s.Expr)
	case api.StmtSet:
		p.put(s.Name)
		p.given(s.Expr)
	case api.StmtIf:
		p.guarded("if", s)
		p.otherwise(s)
	case api.StmtWhile:
		p.guarded("while", s)
	case api.StmtReturn:
		p.returned(s.Expr)
	case api.StmtPrint:
		p.put("print", blank)
		p.expr(s.Expr)
		p.put(";")
	case api.StmtDo:
		p.expr(s.Expr)
		p.put(";")
	}
}

// given writes what is given to a name, and the end of that.
func (p *printer) given(e api.Expr) {
	p.put(blank, "=", blank)
	p.expr(e)
	p.put(";")
}

// guarded writes a block that hangs on an expression.
func (p *printer) guarded(key string, s api.Stmt) {
	p.put(key, blank)
	p.expr(s.Expr)
	p.put(blank)
	p.block(s.Body)
}

// otherwise writes an else: an if that is all of it needs no block around it.
func (p *printer) otherwise(s api.Stmt) {
	if !s.HasElse {
		return
	}
	p.put(blank, "else", blank)
	if len(s.Else) == 1 && s.Else[0].Kind == api.StmtIf {
		p.stmt(s.Else[0])
		return
	}
	p.block(s.Else)
}

func (p *printer) returned(e api.Expr) {
	p.put("return")
	if e.Kind != api.ExprNone {
		p.put(blank)
		p.expr(e)
	}
	p.put(";")
}
