package check

import (
	"cmp"
	"slices"
	"strings"

	"treadle/api"
)

// Apply is what an operator makes of values.
func Apply(op api.Op, l ...api.Value) (api.Value, api.Errno) {
	if op <= api.OpNone || op > api.OpLen || len(l) != operands(op) || !all(l, rightValue) {
		return api.Value{}, api.ErrArg
	}
	types := make([]api.Type, 0, 2)
	for _, v := range l {
		types = append(types, v.Type)
	}
	if unfit(op, types...) >= 0 {
		return api.Value{}, api.ErrType
	}
	// An operator of one value is given it twice: so all are alike below.
	a, b := l[0], l[len(l)-1]
	switch made(op) {
	case api.TypeInt:
		return number(op, a, b)
	case api.TypeText:
		return joined(a.Text, b.Text)
	}
	return api.Value{Type: api.TypeBool, Bool: truth(op, a, b)}, api.OK
}

// operands is how many values an operator takes.
func operands(op api.Op) int {
	if op == api.OpNeg || op == api.OpNot || op == api.OpLen {
		return 1
	}
	return 2
}

// unfit is the place of the first operand whose type is not as the operator asks; -1: there is none.
func unfit(op api.Op, types ...api.Type) int {
	switch op {
	case api.OpLt, api.OpLe, api.OpGt, api.OpGe:
		if types[0] == api.TypeBool {
			return 0
		}
		fallthrough
	case api.OpEq, api.OpNe:
		if types[0] == api.TypeNone {
			return 0
		}
		return firstBut(types[0], types)
	case api.OpOr, api.OpAnd, api.OpNot:
		return firstBut(api.TypeBool, types)
	case api.OpJoin, api.OpLen:
		return firstBut(api.TypeText, types)
	}
	return firstBut(api.TypeInt, types)
}

func firstBut(t api.Type, l []api.Type) int {
	return slices.IndexFunc(l, func(x api.Type) bool { return x != t })
}

// made is the type of what an operator makes.
func made(op api.Op) api.Type {
	switch op {
	case api.OpAdd, api.OpSub, api.OpMul, api.OpDiv, api.OpRem, api.OpNeg, api.OpLen:
		return api.TypeInt
	case api.OpJoin:
		return api.TypeText
	}
	return api.TypeBool
}

func number(op api.Op, a, b api.Value) (api.Value, api.Errno) {
	v := api.Value{Type: api.TypeInt}
	switch op {
	case api.OpAdd:
		v.Int = a.Int + b.Int
	case api.OpSub:
		v.Int = a.Int - b.Int
	case api.OpMul:
		v.Int = a.Int * b.Int
	case api.OpNeg:
		v.Int = -a.Int
	case api.OpLen:
		v.Int = int64(len(a.Text))
	case api.OpDiv, api.OpRem:
		if b.Int == 0 {
			return api.Value{}, api.ErrConst
		}
		if v.Int = a.Int / b.Int; op == api.OpRem {
			v.Int = a.Int % b.Int
		}
	}
	return v, api.OK
}

func joined(a, b string) (api.Value, api.Errno) {
	if len(a)+len(b) > api.MaxText {
		return api.Value{}, api.ErrConst
	}
	// A sum of texts may be one of them, if the other is empty.
	return api.Value{Type: api.TypeText, Text: strings.Clone(a + b)}, api.OK
}

func truth(op api.Op, a, b api.Value) bool {
	switch op {
	case api.OpOr:
		return a.Bool || b.Bool
	case api.OpAnd:
		return a.Bool && b.Bool
	case api.OpNot:
		return !a.Bool
	case api.OpEq:
		return a == b
	case api.OpNe:
		return a != b
	case api.OpLt:
		return order(a, b) < 0
	case api.OpLe:
		return order(a, b) <= 0
	case api.OpGt:
		return order(a, b) > 0
	}
	return order(a, b) >= 0
}

// order is that of two numbers, or of two texts by their bytes: in what the others have their texts, or their numbers, are alike.
func order(a, b api.Value) int {
	return cmp.Or(cmp.Compare(a.Int, b.Int), strings.Compare(a.Text, b.Text))
}
