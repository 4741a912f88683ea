package parse

import "treadle/api"

func (p *parser) block() []api.Stmt {
	var l []api.Stmt
	p.open("{")
	for !p.is("}") {
		l = append(l, p.stmt())
	}
	p.shut("}")
	return l
}

func (p *parser) stmt() api.Stmt {
	switch p.text() {
	case "var":
		return p.varStmt()
	case "if":
		return p.ifStmt()
	case "while":
		return p.whileStmt()
	case "return":
		return p.returnStmt()
	case "print":
		return p.printStmt()
	}
	return p.wordStmt()
}

func (p *parser) varStmt() api.Stmt {
	s := api.Stmt{Kind: api.StmtVar, At: p.take("var")}
	s.Name = p.word()
	s.Expr = p.given()
	return s
}

func (p *parser) ifStmt() api.Stmt {
	s := api.Stmt{Kind: api.StmtIf, At: p.take("if")}
	s.Expr = p.expr()
	s.Body = p.block()
	if s.HasElse = p.skip("else"); s.HasElse {
		s.Else = p.elseBlock()
	}
	return s
}

func (p *parser) elseBlock() []api.Stmt {
	if p.is("if") {
		return []api.Stmt{p.ifStmt()}
	}
	return p.block()
}

func (p *parser) whileStmt() api.Stmt {
	s := api.Stmt{Kind: api.StmtWhile, At: p.take("while")}
	s.Expr = p.expr()
	s.Body = p.block()
	return s
}

func (p *parser) returnStmt() api.Stmt {
	s := api.Stmt{Kind: api.StmtReturn, At: p.take("return")}
	if !p.is(";") {
		s.Expr = p.expr()
	}
	p.take(";")
	return s
}

func (p *parser) printStmt() api.Stmt {
	s := api.Stmt{Kind: api.StmtPrint, At: p.take("print")}
	s.Expr = p.expr()
	p.take(";")
	return s
}

// wordStmt takes what begins with a word: which of the two it is, the token behind that tells.
func (p *parser) wordStmt() api.Stmt {
	s := api.Stmt{At: p.token.From}
	name := p.word()
	if p.is("=") {
		s.Kind, s.Name, s.Expr = api.StmtSet, name, p.given()
		return s
	}
	s.Kind, s.Expr = api.StmtDo, p.call(p.named(s.At, name))
	p.take(";")
	return s
}

// given takes what is given to a name, and the end of that.
func (p *parser) given() api.Expr {
	p.take("=")
	e := p.expr()
	p.take(";")
	return e
}
