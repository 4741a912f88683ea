package code

import (
	"slices"

	"treadle/api"
	"treadle/lex"
	"treadle/path"
)

// rightObject tells whether all of an object may be, but what is within its procedures.
func rightObject(o api.Object) bool {
	few := len(o.Consts) <= api.MaxConsts && len(o.Needs) <= api.MaxConsts && len(o.Procs) <= api.MaxDecls
	return few && rightPath(o.Path) && all(o.Consts, rightValue) && all(o.Needs, rightNeed)
}

// rightProgram tells likewise of a program.
func rightProgram(p api.Program) bool {
	few := len(p.Consts) <= api.MaxPool && len(p.Procs) <= api.MaxProcs
	return few && all(p.Consts, rightValue) && rightPoints(p.Points, p.Procs)
}

// rightPoints tells whether each point leads to what it says, and no two say the same.
func rightPoints(points []api.Point, procs []api.Proc) bool {
	type told struct{ path, name string }
	ahead := map[told]int{}
	for i, x := range points {
		_, twice := ahead[told{x.Path, x.Name}]
		if twice || !rightPoint(x, procs) {
			return false
		}
		ahead[told{x.Path, x.Name}] = i
	}
	return true
}

func rightPoint(x api.Point, procs []api.Proc) bool {
	if x.Proc < 0 || x.Proc >= len(procs) {
		return false
	}
	p := procs[x.Proc]
	return p.Export && p.Name == x.Name && rightPath(x.Path)
}

func rightNeed(n api.Need) bool {
	return rightPath(n.Path) && lex.Word(n.Name) && rightHead(n.Params, n.Result)
}

// rightHead tells whether a procedure may have these parameters and this result.
func rightHead(params []api.Type, result api.Type) bool {
	given := result == api.TypeNone || rightType(result)
	return given && len(params) <= api.MaxVars && all(params, rightType)
}

// rightPath tells whether a file may stand there: not at the root.
func rightPath(s string) bool { return s != "" && path.Check(s) == api.OK }

func rightType(t api.Type) bool {
	return t == api.TypeInt || t == api.TypeBool || t == api.TypeText
}

// rightValue tells whether a value has nothing but what its type asks for.
func rightValue(v api.Value) bool {
	switch v.Type {
	case api.TypeInt:
		return v == api.Value{Type: v.Type, Int: v.Int}
	case api.TypeBool:
		return v == api.Value{Type: v.Type, Bool: v.Bool}
	case api.TypeText:
		return len(v.Text) <= api.MaxText && v == api.Value{Type: v.Type, Text: v.Text}
	}
	return false
}

func all[T any](l []T, right func(T) bool) bool {
	return !slices.ContainsFunc(l, func(x T) bool { return !right(x) })
}
