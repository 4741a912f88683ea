package code

import (
	"maps"
	"slices"

	"treadle/api"
)

// state is what is known ahead of an instruction. Its rows are never written to once it stands, so that states may share them.
type state struct {
	reached bool
	vars    []api.Type
	unlike  bool // the stack is not of one length; there is no row then
	stack   []api.Type
}

// entry is the state with which a procedure begins.
func entry(p api.Proc) state {
	vars := make([]api.Type, p.Locals)
	copy(vars, p.Params)
	return state{reached: true, vars: vars}
}

// joined is what is known if either state may be the one.
func (s state) joined(other state) state {
	if !s.reached {
		return other
	}
	j := state{reached: true, vars: joinedRow(s.vars, other.vars)}
	if s.unlike || other.unlike || len(s.stack) != len(other.stack) {
		j.unlike = true
		return j
	}
	j.stack = joinedRow(s.stack, other.stack)
	return j
}

// joinedRow is of rows of one length.
func joinedRow(a, b []api.Type) []api.Type {
	l := slices.Clone(a)
	for i, t := range b {
		if l[i] != t {
			l[i] = api.TypeNone
		}
	}
	return l
}

func (s state) same(other state) bool {
	return s.reached == other.reached && s.unlike == other.unlike && slices.Equal(s.vars, other.vars) && slices.Equal(s.stack, other.stack)
}

// behind is the state behind an instruction, wherever that goes on.
func (w world) behind(i api.Instr, s state) state {
	after := state{reached: true, vars: s.vars}
	if i.Code == api.CodeStore {
		after.vars = slices.Clone(s.vars)
		after.vars[i.N] = s.top()
	}
	if !w.fits(i, s) {
		after.unlike = true
		return after
	}
	after.stack = slices.Concat(s.stack[:len(s.stack)-w.takes(i)], w.lays(i, s))
	return after
}

// top is the type of the last value; TypeNone, if there is none.
func (s state) top() api.Type {
	if len(s.stack) == 0 {
		return api.TypeNone
	}
	return s.stack[len(s.stack)-1]
}

// flow finds the states of a procedure: what comes to an instruction is joined to its state, and if that is another one then, it is looked at (again).
type flow struct {
	code   []api.Instr
	states []state
	open   map[int]struct{} // the places that are still to be looked at
}

// states are the least states of a procedure whose instructions are not wrong by themselves.
func (w world) states(p api.Proc) []state {
	f := flow{code: p.Code, states: make([]state, len(p.Code)), open: map[int]struct{}{}}
	f.come(0, entry(p))
	for len(f.open) > 0 {
		// From the least place on: what lies ahead of a place has mostly been looked at then.
		for _, at := range slices.Sorted(maps.Keys(f.open)) {
			delete(f.open, at)
			f.lead(at, w.behind(p.Code[at], f.states[at]))
		}
	}
	return f.states
}

// come joins what comes to a place; a place behind the last instruction is none.
func (f *flow) come(at int, s state) {
	if at == len(f.code) {
		return
	}
	if j := f.states[at].joined(s); !j.same(f.states[at]) {
		f.states[at] = j
		f.open[at] = struct{}{}
	}
}

// lead goes on where an instruction does.
func (f *flow) lead(at int, after state) {
	i := f.code[at]
	switch i.Code {
	case api.CodeReturn, api.CodeGive:
	case api.CodeUnless:
		f.come(at+1, after)
		fallthrough
	case api.CodeJump:
		f.come(i.N, after)
	default:
		f.come(at+1, after)
	}
}
