package parse

import (
	"treadle/api"
	"treadle/lex"
)

// Right tells whether a tree may be some source's, places aside.
func Right(m api.Module) bool {
	return every(m.Includes, rightInclude) && every(m.Consts, rightConst) && every(m.Funcs, rightFunc)
}

// RightExpr tells likewise of an expression.
func RightExpr(e api.Expr) bool {
	plain := e.Of == "" && e.Name == ""
	valued := e.Value != api.Value{}
	switch e.Kind {
	case api.ExprLit:
		return plain && rightLiteral(e.Value) && e.Op == api.OpNone && len(e.Kids) == 0
	case api.ExprName:
		return rightName(e) && !valued && e.Op == api.OpNone && len(e.Kids) == 0
	case api.ExprCall:
		return rightName(e) && !valued && e.Op == api.OpNone && every(e.Kids, RightExpr)
	case api.ExprUnary:
		return plain && !valued && api.OpNeg <= e.Op && e.Op <= api.OpLen && len(e.Kids) == 1 && every(e.Kids, RightExpr)
	case api.ExprBinary:
		return plain && !valued && api.OpOr <= e.Op && e.Op <= api.OpRem && len(e.Kids) == 2 && every(e.Kids, RightExpr)
	}
	return false
}

func every[T any](l []T, right func(T) bool) bool {
	for _, x := range l {
		if !right(x) {
			return false
		}
	}
	return true
}

func rightInclude(in api.Include) bool { return len(in.Path) <= api.MaxText && lex.Word(in.Name) }

func rightConst(c api.Const) bool { return lex.Word(c.Name) && RightExpr(c.Expr) }

func rightFunc(f api.Func) bool {
	result := f.Result == api.TypeNone || rightType(f.Result)
	return lex.Word(f.Name) && every(f.Params, rightParam) && result && rightBlock(f.Body)
}

func rightParam(x api.Param) bool { return lex.Word(x.Name) && rightType(x.Type) }

func rightType(t api.Type) bool {
	return t == api.TypeInt || t == api.TypeBool || t == api.TypeText
}

func rightBlock(l []api.Stmt) bool { return every(l, rightStmt) }

func rightStmt(s api.Stmt) bool {
	plain := s.Name == ""
	bodiless := len(s.Body) == 0
	elseless := !s.HasElse && len(s.Else) == 0
	switch s.Kind {
	case api.StmtVar, api.StmtSet:
		return lex.Word(s.Name) && RightExpr(s.Expr) && bodiless && elseless
	case api.StmtIf:
		return plain && RightExpr(s.Expr) && rightBlock(s.Body) && (elseless || s.HasElse && rightBlock(s.Else))
	case api.StmtWhile:
		return plain && RightExpr(s.Expr) && rightBlock(s.Body) && elseless
	case api.StmtReturn:
		return plain && (noExpr(s.Expr) || RightExpr(s.Expr)) && bodiless && elseless
	case api.StmtPrint:
		return plain && RightExpr(s.Expr) && bodiless && elseless
	case api.StmtDo:
		return plain && s.Expr.Kind == api.ExprCall && RightExpr(s.Expr) && bodiless && elseless
	}
	return false
}

// noExpr tells whether an expression is the zero one, its place aside.
func noExpr(e api.Expr) bool {
	return e.Kind == api.ExprNone && e.Of == "" && e.Name == "" && e.Value == api.Value{} && e.Op == api.OpNone && len(e.Kids) == 0
}

// rightName tells whether the words of a name or a call may be.
func rightName(e api.Expr) bool { return (e.Of == "" || lex.Word(e.Of)) && lex.Word(e.Name) }

// rightLiteral tells whether a source can write a value: it has no numbers below 0.
func rightLiteral(v api.Value) bool {
	switch v.Type {
	case api.TypeInt:
		return v.Int >= 0 && v == api.Value{Type: v.Type, Int: v.Int}
	case api.TypeBool:
		return v == api.Value{Type: v.Type, Bool: v.Bool}
	case api.TypeText:
		return len(v.Text) <= api.MaxText && v == api.Value{Type: v.Type, Text: v.Text}
	}
	return false
}
