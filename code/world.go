package code

import (
	"slices"

	"treadle/api"
	"treadle/lex"
)

// world is what the instructions of procedures may name.
type world struct {
	consts []api.Value
	needs  []api.Need
	procs  []api.Proc
	apart  bool // no two procedures may have one name
}

// firstWrong is the first that is wrong of the first procedure that is.
func (w world) firstWrong() (api.Spot, api.Errno) {
	for n := range w.procs {
		if at, e := w.wrongOf(n); e != api.OK {
			return api.Spot{Proc: n, At: at}, e
		}
	}
	return api.Spot{}, api.OK
}

// wrongOf is the first instruction of a procedure that is wrong; 0, if that is wrong as a whole.
func (w world) wrongOf(n int) (int, api.Errno) {
	p := w.procs[n]
	if !rightProc(p) || w.apart && named(w.procs[:n], p.Name) {
		return 0, api.ErrProc
	}
	for at, i := range p.Code {
		if e := w.wrongAlone(p, i); e != api.OK {
			return at, e
		}
	}
	for at, s := range w.states(p) {
		if e := w.wrongBehind(p, at, s); e != api.OK {
			return at, e
		}
	}
	return 0, api.OK
}

func named(procs []api.Proc, name string) bool {
	return slices.ContainsFunc(procs, func(p api.Proc) bool { return p.Name == name })
}

// rightProc tells whether a procedure may be, whatever its instructions.
func rightProc(p api.Proc) bool {
	locals := p.Locals >= len(p.Params) && p.Locals <= api.MaxVars
	size := len(p.Code) > 0 && len(p.Code) <= api.MaxCode
	return locals && size && lex.Word(p.Name) && rightHead(p.Params, p.Result)
}

// wrongAlone is what is wrong with an instruction wherever it stands in its procedure.
func (w world) wrongAlone(p api.Proc, i api.Instr) api.Errno {
	if !writable(i) {
		return api.ErrOp
	}
	switch shapes[i.Code].n {
	case constNumber:
		return below(i.N, len(w.consts), api.ErrOp)
	case varNumber:
		return below(i.N, p.Locals, api.ErrOp)
	case place:
		return below(i.N, len(p.Code), api.ErrJump)
	case procNumber:
		return below(i.N, len(w.procs), api.ErrOp)
	case needNumber:
		return below(i.N, len(w.needs), api.ErrOp)
	}
	return api.OK
}

func below(n, bound int, beyond api.Errno) api.Errno {
	if n < bound {
		return api.OK
	}
	return beyond
}

// wrongBehind is what is wrong with an instruction behind what leads to it.
func (w world) wrongBehind(p api.Proc, at int, s state) api.Errno {
	i := p.Code[at]
	switch {
	case !s.reached:
		return api.OK
	case goesOn(i.Code) && at+1 == len(p.Code):
		return api.ErrEnd
	case !w.fits(i, s) || !ends(i.Code, p.Result):
		return api.ErrStack
	case !w.suits(i, s, p.Result):
		return api.ErrKinds
	}
	return api.OK
}

// goesOn tells whether the next instruction may be carried out behind one.
func goesOn(c api.Code) bool {
	return c != api.CodeJump && c != api.CodeReturn && c != api.CodeGive
}

// ends tells whether a procedure of this result may end so, if the code ends it.
func ends(c api.Code, result api.Type) bool {
	switch c {
	case api.CodeReturn:
		return result == api.TypeNone
	case api.CodeGive:
		return result != api.TypeNone
	}
	return true
}

// called are the parameters and the result of what an instruction calls.
func (w world) called(i api.Instr) ([]api.Type, api.Type) {
	if i.Code == api.CodeCall {
		return w.procs[i.N].Params, w.procs[i.N].Result
	}
	return w.needs[i.N].Params, w.needs[i.N].Result
}

// takes is how many values an instruction takes from the stack.
func (w world) takes(i api.Instr) int {
	switch i.Code {
	case api.CodeCall, api.CodeOuter:
		params, _ := w.called(i)
		return len(params)
	}
	return shapes[i.Code].takes
}

// lays is what an instruction lays on the stack: of one value the type, or nothing.
func (w world) lays(i api.Instr, s state) []api.Type {
	t := shapes[i.Code].lays
	switch i.Code {
	case api.CodeConst:
		t = w.consts[i.N].Type
	case api.CodeLoad:
		// It lays a value whatever is known of it.
		return []api.Type{s.vars[i.N]}
	case api.CodeCall, api.CodeOuter:
		_, t = w.called(i)
	}
	if t == api.TypeNone {
		return nil
	}
	return []api.Type{t}
}

// fits tells whether the stack has what an instruction takes, and room for what it lays.
func (w world) fits(i api.Instr, s state) bool {
	left := len(s.stack) - w.takes(i)
	return !s.unlike && left >= 0 && left+len(w.lays(i, s)) <= api.MaxStack
}

// suits tells whether what an instruction takes, from a stack that has it, is of the types that are told.
func (w world) suits(i api.Instr, s state, result api.Type) bool {
	taken := s.stack[len(s.stack)-w.takes(i):]
	if i.Code != api.CodeDrop && slices.Contains(taken, api.TypeNone) {
		return false
	}
	switch i.Code {
	case api.CodeLoad:
		return s.vars[i.N] != api.TypeNone
	case api.CodeCall, api.CodeOuter:
		params, _ := w.called(i)
		return slices.Equal(taken, params)
	case api.CodeGive:
		return taken[0] == result
	case api.CodeLt, api.CodeLe, api.CodeGt, api.CodeGe:
		if taken[0] != api.TypeInt && taken[0] != api.TypeText {
			return false
		}
		fallthrough
	case api.CodeEq, api.CodeNe:
		return taken[0] == taken[1]
	}
	of := shapes[i.Code].of
	return of == api.TypeNone || all(taken, func(t api.Type) bool { return t == of })
}
