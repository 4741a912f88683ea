package check

import (
	"slices"

	"treadle/api"
	"treadle/lex"
)

// Right tells whether a face may be.
func Right(f api.Face) bool {
	return rightRow(f.Consts, mayFollow) && rightRow(f.Funcs, mayStandBeside(f.Consts))
}

// rightRow tells whether a list is not too long, and each of it may stand behind those ahead of it.
func rightRow[T any](l []T, may func(ahead []T, x T) bool) bool {
	if len(l) > api.MaxDecls {
		return false
	}
	for i, x := range l {
		if !may(l[:i], x) {
			return false
		}
	}
	return true
}

// mayFollow tells whether a face may have a constant behind those ahead of it.
func mayFollow(ahead []api.Bind, c api.Bind) bool {
	rises := len(ahead) == 0 || ahead[len(ahead)-1].Name < c.Name
	return rises && lex.Word(c.Name) && rightValue(c.Value)
}

// mayStandBeside tells likewise of a function, in a face with these constants, which rise.
func mayStandBeside(consts []api.Bind) func(ahead []api.Sig, f api.Sig) bool {
	return func(ahead []api.Sig, f api.Sig) bool {
		_, there := constAt(consts, f.Name)
		rises := len(ahead) == 0 || ahead[len(ahead)-1].Name < f.Name
		return !there && rises && lex.Word(f.Name) && rightSig(f)
	}
}

// rightSig tells whether a function's types may be.
func rightSig(f api.Sig) bool {
	result := f.Result == api.TypeNone || rightType(f.Result)
	return len(f.Params) <= api.MaxVars && all(f.Params, rightType) && result
}

func rightType(t api.Type) bool {
	return t == api.TypeInt || t == api.TypeBool || t == api.TypeText
}

// rightValue tells whether a value has nothing but what its type asks for.
func rightValue(v api.Value) bool {
	switch v.Type {
	case api.TypeInt:
		return v == api.Value{Type: v.Type, Int: v.Int}
	case api.TypeBool:
		return v == api.Value{Type: v.Type, Bool: v.Bool}
	case api.TypeText:
		return len(v.Text) <= api.MaxText && v == api.Value{Type: v.Type, Text: v.Text}
	}
	return false
}

func all[T any](l []T, right func(T) bool) bool {
	return !slices.ContainsFunc(l, func(x T) bool { return !right(x) })
}
