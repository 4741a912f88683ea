package parse

import (
	"treadle/api"
	"treadle/lex"
)

// manyOperators is no bound: no source has more tokens than bytes.
const manyOperators = api.MaxSource

// The sign of an operator between two operands stands at the operator's number.
var binarySigns = [...]string{
	api.OpOr: "||", api.OpAnd: "&&",
	api.OpEq: "==", api.OpNe: "!=", api.OpLt: "<", api.OpLe: "<=", api.OpGt: ">", api.OpGe: ">=",
	api.OpAdd: "+", api.OpSub: "-", api.OpJoin: "++",
	api.OpMul: "*", api.OpDiv: "/", api.OpRem: "%",
}

func (p *parser) expr() api.Expr { return p.line((*parser).and, manyOperators, "||") }

func (p *parser) and() api.Expr { return p.line((*parser).compare, manyOperators, "&&") }

func (p *parser) compare() api.Expr {
	return p.line((*parser).sum, 1, "==", "!=", "<", "<=", ">", ">=")
}

func (p *parser) sum() api.Expr { return p.line((*parser).product, manyOperators, "+", "-", "++") }

func (p *parser) product() api.Expr { return p.line((*parser).unary, manyOperators, "*", "/", "%") }

// line takes operands with operators of one line of the grammar between, so many at most, which bind to the left.
func (p *parser) line(operand func(*parser) api.Expr, most int, signs ...string) api.Expr {
	e := operand(p)
	for n := 0; n < most && p.is(signs...); n++ {
		op := binaryOp(p.text())
		at := p.take(p.text())
		e = api.Expr{Kind: api.ExprBinary, At: at, Op: op, Kids: []api.Expr{e, operand(p)}}
	}
	return e
}

func binaryOp(sign string) api.Op {
	for op, s := range binarySigns {
		if s == sign {
			return api.Op(op)
		}
	}
	return api.OpNone
}

func (p *parser) unary() api.Expr {
	op := unaryOp(p.text())
	if op == api.OpNone {
		return p.primary()
	}
	e := api.Expr{Kind: api.ExprUnary, At: p.open(p.text()), Op: op}
	e.Kids = []api.Expr{p.unary()}
	p.levels--
	return e
}

func unaryOp(sign string) api.Op {
	switch sign {
	case "-":
		return api.OpNeg
	case "!":
		return api.OpNot
	case "#":
		return api.OpLen
	}
	return api.OpNone
}

func (p *parser) primary() api.Expr {
	switch {
	case p.is("("):
		p.open("(")
		e := p.expr()
		p.shut(")")
		return e
	case p.token.Kind == api.TokenWord:
		at := p.token.From
		e := p.named(at, p.word())
		if p.is("(") {
			return p.call(e)
		}
		return e
	}
	e := api.Expr{Kind: api.ExprLit, At: p.token.From, Value: p.value()}
	p.next()
	return e
}

// named is a name whose first word was taken: that is the include's, if a point follows.
func (p *parser) named(at int, first string) api.Expr {
	if p.skip(".") {
		return api.Expr{Kind: api.ExprName, At: at, Of: first, Name: p.word()}
	}
	return api.Expr{Kind: api.ExprName, At: at, Name: first}
}

// call takes the arguments behind a name.
func (p *parser) call(name api.Expr) api.Expr {
	name.Kind, name.Kids = api.ExprCall, bracketed(p, (*parser).expr)
	return name
}

// value is what the token stands for, which must be a literal.
func (p *parser) value() api.Value {
	v := api.Value{}
	switch {
	case p.token.Kind == api.TokenNumber:
		v.Type = api.TypeInt
		v.Int, _ = lex.Number(p.text())
	case p.token.Kind == api.TokenText:
		v.Type = api.TypeText
		v.Text, _ = lex.Text(p.text())
	case p.is("true", "false"):
		v.Type = api.TypeBool
		v.Bool = p.is("true")
	default:
		p.refuse()
	}
	return v
}
