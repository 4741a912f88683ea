package check

import (
	"slices"
	"strings"

	"treadle/api"
)

// scope is what names mean at a place of a module.
type scope interface {
	variable(name string) (api.Type, bool)
	constant(of, name string) (api.Value, bool)
	function(of, name string) (api.Sig, bool)
}

// module is the outermost scope: what is known in the whole module.
type module struct {
	consts map[string]api.Value
	funcs  map[string]api.Sig
	faces  map[string]api.Face // by the names of their includes
}

func newModule() *module {
	return &module{consts: map[string]api.Value{}, funcs: map[string]api.Sig{}, faces: map[string]api.Face{}}
}

// variable is none: outside of functions there are none.
func (s *module) variable(name string) (api.Type, bool) { return api.TypeNone, false }

// constant is the module's own, or what an include's face has.
func (s *module) constant(of, name string) (api.Value, bool) {
	if of == "" {
		v, there := s.consts[name]
		return v, there
	}
	l := s.faces[of].Consts
	if i, there := constAt(l, name); there {
		return l[i].Value, true
	}
	return api.Value{}, false
}

// function is likewise what a call means.
func (s *module) function(of, name string) (api.Sig, bool) {
	if of == "" {
		f, there := s.funcs[name]
		return f, there
	}
	l := s.faces[of].Funcs
	if i, there := funcAt(l, name); there {
		return l[i], true
	}
	return api.Sig{}, false
}

// constAt is where a name stands among constants that rise.
func constAt(l []api.Bind, name string) (int, bool) {
	return slices.BinarySearchFunc(l, name, func(c api.Bind, name string) int { return strings.Compare(c.Name, name) })
}

// funcAt is likewise where it stands among functions.
func funcAt(l []api.Sig, name string) (int, bool) {
	return slices.BinarySearchFunc(l, name, func(f api.Sig, name string) int { return strings.Compare(f.Name, name) })
}

// block is the scope of a function's parameters, or of a block: what is known around it is known in it, too.
type block struct {
	scope
	vars map[string]api.Type // nil, as long as there are none
}

// within is the scope of a block that stands in this one. A scope without variables is passed over, so that no more of them lie around one another than there are variables.
func (b *block) within() *block {
	if b.vars == nil {
		return &block{scope: b.scope}
	}
	return &block{scope: b}
}

// variable is the block's own, or one of those around it. No two of one name are known at one place.
func (b *block) variable(name string) (api.Type, bool) {
	if t, there := b.vars[name]; there {
		return t, true
	}
	return b.scope.variable(name)
}

// declare lets a variable be known up to the block's end.
func (b *block) declare(name string, t api.Type) {
	if b.vars == nil {
		b.vars = map[string]api.Type{}
	}
	b.vars[name] = t
}

// firsts are the places at which the names of a list stand first.
func firsts[T any](l []T, nameOf func(T) string) map[string]int {
	first := make(map[string]int, len(l))
	for i, x := range l {
		if _, there := first[nameOf(x)]; !there {
			first[nameOf(x)] = i
		}
	}
	return first
}

func includeName(in api.Include) string { return in.Name }

func constName(c api.Const) string { return c.Name }

func funcName(f api.Func) string { return f.Name }

func paramName(x api.Param) string { return x.Name }
