package print

import (
	"strconv"

	"treadle/api"
	"treadle/lex"
)

// How much an expression holds together: the lines of layer 14's grammar, the weakest first; what has no operator between two operands holds most.
const (
	holdOr = iota
	holdAnd
	holdCompare
	holdSum
	holdProduct
	holdMost
)

// An operator's sign stands at its number.
var signs = [...]string{
	api.OpOr: "||", api.OpAnd: "&&",
	api.OpEq: "==", api.OpNe: "!=", api.OpLt: "<", api.OpLe: "<=", api.OpGt: ">", api.OpGe: ">=",
	api.OpAdd: "+", api.OpSub: "-", api.OpJoin: "++",
	api.OpMul: "*", api.OpDiv: "/", api.OpRem: "%",
	api.OpNeg: "-", api.OpNot: "!", api.OpLen: "#",
}

func (p *printer) expr(e api.Expr) {
	switch e.Kind {
	case api.ExprLit:
		p.put(literal(e.Value))
	case api.ExprName:
		p.name(e)
	case api.ExprCall:
		p.name(e)
		bracketed(p, e.Kids, (*printer).expr)
	case api.ExprUnary:
		p.open(signs[e.Op])
		p.operand(e.Kids[0], holdMost)
		p.levels--
	case api.ExprBinary:
		p.binary(e)
	}
}

// name writes the words of a name or a call.
func (p *printer) name(e api.Expr) {
	if e.Of != "" {
		p.put(e.Of, ".")
	}
	p.put(e.Name)
}

// binary writes operands with an operator between. It binds to the left: so the left operand needs hold no more than the whole does.
func (p *printer) binary(e api.Expr) {
	left := hold(e)
	if left == holdCompare {
		left++ // those stand in no row
	}
	p.operand(e.Kids[0], left)
	p.put(blank, signs[e.Op], blank)
	p.operand(e.Kids[1], hold(e)+1)
}

// operand writes an expression, in brackets, if it holds less than it must.
func (p *printer) operand(e api.Expr, least int) {
	if hold(e) >= least {
		p.expr(e)
		return
	}
	p.open("(")
	p.expr(e)
	p.shut(")")
}

func hold(e api.Expr) int {
	if e.Kind != api.ExprBinary {
		return holdMost
	}
	switch e.Op {
	case api.OpOr:
		return holdOr
	case api.OpAnd:
		return holdAnd
	case api.OpAdd, api.OpSub, api.OpJoin:
		return holdSum
	case api.OpMul, api.OpDiv, api.OpRem:
		return holdProduct
	}
	return holdCompare
}

func literal(v api.Value) string {
	switch v.Type {
	case api.TypeInt:
		return strconv.FormatInt(v.Int, 10)
	case api.TypeBool:
		return strconv.FormatBool(v.Bool)
	}
	return quoted(v.Text)
}

// quoted is the text of a value that is known to be short enough.
func quoted(value string) string {
	s, _ := lex.Quote(value)
	return s
}
