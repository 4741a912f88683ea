package parse

import (
	"treadle/api"
	"treadle/lex"
)

func (p *parser) module() api.Module {
	var m api.Module
	for p.is("include") {
		m.Includes = append(m.Includes, p.include())
	}
	for p.token.Kind != api.TokenEnd {
		export := p.skip("export")
		if p.is("const") {
			m.Consts = append(m.Consts, p.constant(export))
		} else {
			m.Funcs = append(m.Funcs, p.function(export))
		}
	}
	return m
}

func (p *parser) include() api.Include {
	in := api.Include{At: p.take("include")}
	if p.token.Kind != api.TokenText {
		p.refuse()
	}
	in.Path, _ = lex.Text(p.text())
	p.next()
	p.take("as")
	in.Name = p.word()
	p.take(";")
	return in
}

func (p *parser) constant(export bool) api.Const {
	p.take("const")
	c := api.Const{Export: export, At: p.token.From}
	c.Name = p.word()
	c.Expr = p.given()
	return c
}

func (p *parser) function(export bool) api.Func {
	p.take("func")
	f := api.Func{Export: export, At: p.token.From}
	f.Name = p.word()
	f.Params = bracketed(p, (*parser).param)
	if p.skip(":") {
		f.Result = p.typeName()
	}
	f.Body = p.block()
	return f
}

func (p *parser) param() api.Param {
	x := api.Param{Name: p.word()}
	p.take(":")
	x.Type = p.typeName()
	return x
}

func (p *parser) typeName() api.Type {
	t := api.TypeNone
	switch p.text() {
	case "int":
		t = api.TypeInt
	case "bool":
		t = api.TypeBool
	case "text":
		t = api.TypeText
	default:
		p.refuse()
	}
	p.next()
	return t
}
