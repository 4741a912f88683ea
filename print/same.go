package print

import (
	"slices"

	"treadle/api"
)

// Same tells whether two modules are the same, places aside.
func Same(a, b api.Module) bool {
	return slices.EqualFunc(a.Includes, b.Includes, sameInclude) &&
		slices.EqualFunc(a.Consts, b.Consts, sameConst) &&
		slices.EqualFunc(a.Funcs, b.Funcs, sameFunc)
}

// SameExpr tells whether two expressions are the same, places aside.
func SameExpr(a, b api.Expr) bool {
	return a.Kind == b.Kind && a.Of == b.Of && a.Name == b.Name && a.Value == b.Value && a.Op == b.Op &&
		slices.EqualFunc(a.Kids, b.Kids, SameExpr)
}

func sameInclude(a, b api.Include) bool { return a.Path == b.Path && a.Name == b.Name }

func sameConst(a, b api.Const) bool {
	return a.Name == b.Name && a.Export == b.Export && SameExpr(a.Expr, b.Expr)
}

func sameFunc(a, b api.Func) bool {
	return a.Name == b.Name && a.Export == b.Export && slices.Equal(a.Params, b.Params) && a.Result == b.Result &&
		sameBlock(a.Body, b.Body)
}

func sameBlock(a, b []api.Stmt) bool { return slices.EqualFunc(a, b, sameStmt) }

func sameStmt(a, b api.Stmt) bool {
	return a.Kind == b.Kind && a.Name == b.Name && SameExpr(a.Expr, b.Expr) &&
		sameBlock(a.Body, b.Body) && a.HasElse == b.HasElse && sameBlock(a.Else, b.Else)
}
