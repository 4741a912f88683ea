package code_test

import (
	"math"
	"strconv"
	"strings"
	"testing"

	"treadle/api"
	"treadle/code"
)

// rightObject is one with something of each kind.
func rightObject(t *testing.T) api.Object {
	return api.Object{
		Path:   "lib/a.m",
		Consts: list(intOf(5), truthOf(true), textOf("x")),
		Needs:  list(api.Need{Path: "b", Name: "g", Params: list(number, text), Result: truth}, api.Need{Path: "lib/a.m", Name: "f"}),
		Procs: list(
			api.Proc{Name: "f", Export: true, Params: list(number), Locals: 2, Result: text, Code: asm(t, "load 0; const 2; outer 0; unless 6; const 2; give; call 1; const 2; give")},
			api.Proc{Name: "g", Code: asm(t, "outer 1; return")},
		),
	}
}

// change is something that is done to an object, and what Object says then.
type change struct {
	name string
	do   func(o *api.Object)
	e    api.Errno
	spot api.Spot
}

func holdChange(t *testing.T, x change) {
	t.Helper()
	o := rightObject(t)
	x.do(&o)
	if spot, e := code.Object(o); spot != x.spot || e != x.e {
		t.Errorf("%s: %v, %v, not %v, %v", x.name, spot, e, x.spot, x.e)
	}
	holdObject(t, o)
	wantHeights := x.e
	if l, e := code.Heights(o, 0); e != wantHeights || (e != ok) != (l == nil) {
		t.Errorf("%s: Heights %v, %v", x.name, l, e)
	}
	if vars, stack, e := code.Types(o, 0, 0); e != x.e || e != ok && (vars != nil || stack != nil) {
		t.Errorf("%s: Types %v, %v, %v", x.name, vars, stack, e)
	}
}

func TestRightObject(t *testing.T) {
	holdChange(t, change{"as it is", func(*api.Object) {}, ok, api.Spot{}})
	if spot, e := code.Object(api.Object{Path: "a"}); spot != (api.Spot{}) || e != ok {
		t.Error("of nothing:", spot, e)
	}
	if spot, e := code.Object(api.Object{}); spot != (api.Spot{}) || e != badProc {
		t.Error("the zero one:", spot, e)
	}
}

// deep is a path of so many names.
func deep(n int) string { return strings.TrimSuffix(strings.Repeat("a/", n), "/") }

func pathsThatAreNone() []string {
	return list("", "/a", "a/", "..", "a//b", "a b", "a/..", "./a", deep(33), strings.Repeat("a", 65))
}

// K4: the paths of an object and of a need.
func TestPaths(t *testing.T) {
	for _, s := range pathsThatAreNone() {
		holdChange(t, change{"path " + s, func(o *api.Object) { o.Path = s }, badProc, api.Spot{}})
		holdChange(t, change{"need of " + s, func(o *api.Object) { o.Needs[1].Path = s }, badProc, api.Spot{}})
	}
	for _, s := range list("a", "a.m", "lib/a-b/c_d.m", deep(32), strings.Repeat("a", 64)) {
		holdChange(t, change{"path " + s, func(o *api.Object) { o.Path = s }, ok, api.Spot{}})
		holdChange(t, change{"need of " + s, func(o *api.Object) { o.Needs[1].Path = s }, ok, api.Spot{}})
	}
}

// K4: the names of a need and of a procedure.
func TestNames(t *testing.T) {
	for _, s := range list("", "if", "1", "a b", "a-b", strings.Repeat("a", 33)) {
		holdChange(t, change{"need " + s, func(o *api.Object) { o.Needs[1].Name = s }, badProc, api.Spot{}})
		holdChange(t, change{"procedure 0 " + s, func(o *api.Object) { o.Procs[0].Name = s }, badProc, api.Spot{}})
		holdChange(t, change{"procedure 1 " + s, func(o *api.Object) { o.Procs[1].Name = s }, badProc, api.Spot{Proc: 1}})
	}
	for _, s := range list("a", "_", "A9_", "If", "iff", strings.Repeat("a", 32)) {
		holdChange(t, change{"need " + s, func(o *api.Object) { o.Needs[1].Name = s }, ok, api.Spot{}})
		holdChange(t, change{"procedure " + s, func(o *api.Object) { o.Procs[1].Name = s }, ok, api.Spot{}})
	}
	holdChange(t, change{"a name twice", func(o *api.Object) { o.Procs[1].Name = "f" }, badProc, api.Spot{Proc: 1}})
	holdChange(t, change{"needs alike", func(o *api.Object) { o.Needs[0] = o.Needs[1]; o.Procs = o.Procs[1:] }, ok, api.Spot{}})
	holdChange(t, change{"one name thrice", func(o *api.Object) {
		g := o.Procs[1]
		o.Procs = append(list(o.Procs[0]), g, g, g)
	}, badProc, api.Spot{Proc: 2}})
}

func TestConstants(t *testing.T) {
	long := strings.Repeat("x", api.MaxText)
	for _, v := range list(intOf(0), intOf(math.MinInt64), intOf(math.MaxInt64), truthOf(false), textOf(""), textOf("\x00\xff"), textOf(long)) {
		holdChange(t, change{"a constant more", func(o *api.Object) { o.Consts = append(o.Consts, v) }, ok, api.Spot{}})
	}
	for _, v := range list(api.Value{}, api.Value{Int: 1}, api.Value{Bool: true}, api.Value{Text: "x"}, api.Value{Type: 4}, api.Value{Type: -1}, api.Value{Type: 4, Int: 1},
		api.Value{Type: number, Int: 1, Bool: true}, api.Value{Type: number, Int: 1, Text: "x"}, api.Value{Type: number, Bool: true}, api.Value{Type: number, Text: "x"},
		api.Value{Type: truth, Int: 1}, api.Value{Type: truth, Bool: true, Int: -1}, api.Value{Type: truth, Text: "x"}, api.Value{Type: truth, Bool: true, Text: "true"},
		api.Value{Type: text, Int: 1}, api.Value{Type: text, Text: "x", Int: 1}, api.Value{Type: text, Text: "x", Bool: true}, textOf(long+"x")) {
		holdChange(t, change{"first", func(o *api.Object) { o.Consts = append(list(v), o.Consts...) }, badProc, api.Spot{}})
		holdChange(t, change{"last", func(o *api.Object) { o.Consts = append(o.Consts, v) }, badProc, api.Spot{}})
	}
}

// K4: as many constants, needs and procedures as there may be, and one more.
func TestHowMany(t *testing.T) {
	many := func(n int) (l []api.Proc) {
		for i := range n {
			l = append(l, api.Proc{Name: "p" + strconv.Itoa(i), Code: list(api.Instr{Code: api.CodeReturn})})
		}
		return l
	}
	holdChange(t, change{"4096 constants", func(o *api.Object) { o.Consts = append(o.Consts, sized(4093, intOf(1))...) }, ok, api.Spot{}})
	holdChange(t, change{"4097 constants", func(o *api.Object) { o.Consts = append(o.Consts, sized(4094, intOf(1))...) }, badProc, api.Spot{}})
	holdChange(t, change{"4096 needs", func(o *api.Object) { o.Needs = append(o.Needs, sized(4094, o.Needs[0])...) }, ok, api.Spot{}})
	holdChange(t, change{"4097 needs", func(o *api.Object) { o.Needs = append(o.Needs, sized(4095, o.Needs[0])...) }, badProc, api.Spot{}})
	holdChange(t, change{"128 procedures", func(o *api.Object) { o.Procs = append(o.Procs, many(126)...) }, ok, api.Spot{}})
	holdChange(t, change{"129 procedures", func(o *api.Object) { o.Procs = append(o.Procs, many(127)...) }, badProc, api.Spot{}})
	holdChange(t, change{"the last constant", func(o *api.Object) {
		o.Consts = append(o.Consts, sized(4093, truthOf(true))...)
		o.Procs[1].Code = asm(t, "const 4095; not; drop; return")
	}, ok, api.Spot{}})
	holdChange(t, change{"the last need", func(o *api.Object) {
		o.Needs = append(o.Needs, sized(4094, o.Needs[1])...)
		o.Procs[1].Code = asm(t, "outer 4095; return")
	}, ok, api.Spot{}})
	holdChange(t, change{"the last procedure", func(o *api.Object) {
		o.Procs = append(o.Procs, many(126)...)
		o.Procs[1].Code = asm(t, "call 127; return")
	}, ok, api.Spot{}})
}

// K4: the parameters and the result of needs and of procedures.
func TestHeads(t *testing.T) {
	for _, wrong := range list[api.Type](-9, 4, 9) {
		holdChange(t, change{"a need's result", func(o *api.Object) { o.Needs[1].Result = wrong }, badProc, api.Spot{}})
		holdChange(t, change{"a procedure's result", func(o *api.Object) { o.Procs[1].Result = wrong }, badProc, api.Spot{Proc: 1}})
		for _, l := range list(list(wrong), list(number, wrong), list(wrong, text), list(text, none)) {
			holdChange(t, change{"a need's parameter", func(o *api.Object) { o.Needs[1].Params = l; o.Procs[1].Code = asm(t, "return") }, badProc, api.Spot{}})
			holdChange(t, change{"a procedure's parameter", func(o *api.Object) {
				o.Procs[1].Params, o.Procs[1].Locals = l, 2
				o.Procs[0].Code = asm(t, "const 2; give")
			}, badProc, api.Spot{Proc: 1}})
		}
	}
	for _, good := range list(none, number, truth, text) {
		holdChange(t, change{"a need's result", func(o *api.Object) { o.Needs[1].Result = good }, ok, api.Spot{}})
	}
	holdChange(t, change{"a need's parameter of no type", func(o *api.Object) { o.Needs[1].Params = list(none) }, badProc, api.Spot{}})
	holdChange(t, change{"64 parameters of a need", func(o *api.Object) {
		o.Needs = append(o.Needs, api.Need{Path: "b", Name: "h", Params: sized(64, text)})
	}, ok, api.Spot{}})
	holdChange(t, change{"65 parameters of a need", func(o *api.Object) {
		o.Needs = append(o.Needs, api.Need{Path: "b", Name: "h", Params: sized(65, text)})
	}, badProc, api.Spot{}})
	with := func(params, locals int) func(o *api.Object) {
		return func(o *api.Object) {
			o.Procs = append(o.Procs, api.Proc{Name: "h", Params: sized(params, truth), Locals: locals, Code: asm(t, "return")})
		}
	}
	third := api.Spot{Proc: 2}
	for _, x := range []struct {
		params, locals int
		e              api.Errno
	}{
		{0, 0, ok}, {0, 1, ok}, {0, 64, ok}, {0, 65, badProc}, {0, -1, badProc}, {0, math.MinInt, badProc}, {0, math.MaxInt, badProc},
		{1, 0, badProc}, {1, 1, ok}, {2, 1, badProc}, {63, 64, ok}, {64, 64, ok}, {64, 63, badProc}, {64, 65, badProc}, {65, 64, badProc}, {65, 65, badProc},
	} {
		spot := third
		if x.e == ok {
			spot = api.Spot{}
		}
		holdChange(t, change{"params " + strconv.Itoa(x.params) + ", locals " + strconv.Itoa(x.locals), with(x.params, x.locals), x.e, spot})
	}
}

// K4: how many instructions there may be.
func TestSizes(t *testing.T) {
	jumps := func(n int) func(o *api.Object) {
		return func(o *api.Object) { o.Procs[1].Code = sized(n, api.Instr{Code: api.CodeJump}) }
	}
	holdChange(t, change{"none", jumps(0), badProc, api.Spot{Proc: 1}})
	holdChange(t, change{"one", jumps(1), ok, api.Spot{}})
	holdChange(t, change{"16384", jumps(api.MaxCode), ok, api.Spot{}})
	holdChange(t, change{"16385", jumps(api.MaxCode + 1), badProc, api.Spot{Proc: 1}})
	holdChange(t, change{"a jump to the last of 16384", func(o *api.Object) {
		jumps(api.MaxCode)(o)
		o.Procs[1].Code[0].N = api.MaxCode - 1
	}, ok, api.Spot{}})
}

// K4: what is wrong with an instruction by itself.
func TestWrongAlone(t *testing.T) {
	for _, x := range []struct {
		i api.Instr
		e api.Errno
	}{
		{api.Instr{}, badOp}, {api.Instr{Code: 27}, badOp}, {api.Instr{Code: -1}, badOp}, {api.Instr{Code: 1 << 40}, badOp},
		{api.Instr{Code: api.CodeAdd, N: 1}, badOp}, {api.Instr{Code: api.CodeReturn, N: -1}, badOp}, {api.Instr{Code: api.CodeLen, N: 1 << 33}, badOp},
		{api.Instr{Code: api.CodeConst, N: 3}, badOp}, {api.Instr{Code: api.CodeConst, N: -1}, badOp}, {api.Instr{Code: api.CodeConst, N: math.MaxInt}, badOp},
		{api.Instr{Code: api.CodeLoad, N: 2}, badOp}, {api.Instr{Code: api.CodeLoad, N: -1}, badOp}, {api.Instr{Code: api.CodeStore, N: 2}, badOp}, {api.Instr{Code: api.CodeStore, N: math.MinInt}, badOp},
		{api.Instr{Code: api.CodeCall, N: 2}, badOp}, {api.Instr{Code: api.CodeCall, N: -1}, badOp}, {api.Instr{Code: api.CodeOuter, N: 2}, badOp}, {api.Instr{Code: api.CodeOuter, N: -1}, badOp},
		{api.Instr{Code: api.CodeJump, N: 0}, ok}, {api.Instr{Code: api.CodeJump, N: 10}, ok}, {api.Instr{Code: api.CodeUnless, N: 10}, ok}, {api.Instr{Code: api.CodeJump, N: -1}, badOp}, {api.Instr{Code: api.CodeUnless, N: greatest + 1}, badOp}, {api.Instr{Code: api.CodeJump, N: 1 << 32}, badOp},
		{api.Instr{Code: api.CodeJump, N: 11}, badJump}, {api.Instr{Code: api.CodeUnless, N: 11}, badJump}, {api.Instr{Code: api.CodeJump, N: 12}, badJump}, {api.Instr{Code: api.CodeUnless, N: greatest}, badJump},
	} {
		for _, at := range list(9, 10) { // nothing reaches these
			spot := api.Spot{At: at}
			if x.e == ok {
				spot = api.Spot{}
			}
			holdChange(t, change{"unreached", func(o *api.Object) {
				o.Procs[0].Code = append(o.Procs[0].Code, asm(t, "drop; drop")...)
				o.Procs[0].Code[at] = x.i
			}, x.e, spot})
		}
	}
	// The last constant, variable, need, procedure and instruction may be named.
	holdChange(t, change{"the last ones", func(o *api.Object) {
		o.Procs[0].Code = append(o.Procs[0].Code, asm(t, "const 2; load 1; store 1; call 1; outer 1; jump 14; unless 0")[:6]...)
	}, ok, api.Spot{}})
}

// K4: of two things that are wrong the one is told that stands ahead, whatever the order in which they are looked at.
func TestTwoWrong(t *testing.T) {
	path := func(o *api.Object) { o.Path = "" }
	head := func(n int) func(o *api.Object) { return func(o *api.Object) { o.Procs[n].Locals = -1 } }
	instr := func(n, at int, i api.Instr) func(o *api.Object) {
		return func(o *api.Object) { o.Procs[n].Code[at] = i }
	}
	drop, add, five := api.Instr{Code: api.CodeDrop}, api.Instr{Code: api.CodeAdd}, api.Instr{Code: api.CodeConst}
	far, wrong := api.Instr{Code: api.CodeJump, N: 99}, api.Instr{}
	for _, x := range []struct {
		name string
		do   []func(o *api.Object)
		e    api.Errno
		spot api.Spot
	}{
		{"the object and a procedure", list(path, head(1)), badProc, api.Spot{}},
		{"the object and an instruction", list(path, instr(1, 0, wrong)), badProc, api.Spot{}},
		{"two procedures", list(head(0), head(1)), badProc, api.Spot{}},
		{"an instruction and a later procedure", list(instr(0, 8, wrong), head(1)), badOp, api.Spot{At: 8}},
		{"a state and a later procedure", list(instr(0, 8, drop), head(1)), badEnd, api.Spot{At: 8}},
		{"a procedure and its instruction", list(head(1), instr(1, 0, wrong)), badProc, api.Spot{Proc: 1}},
		{"a state and a later instruction", list(instr(0, 0, add), instr(0, 7, wrong)), badOp, api.Spot{At: 7}},
		{"a state and a later jump", list(instr(0, 0, add), instr(0, 7, far)), badJump, api.Spot{At: 7}},
		{"a jump and a later instruction", list(instr(0, 5, far), instr(0, 7, wrong)), badJump, api.Spot{At: 5}},
		{"an instruction and a later jump", list(instr(0, 5, wrong), instr(0, 7, far)), badOp, api.Spot{At: 5}},
		{"a state and an instruction of a later procedure", list(instr(0, 4, five), instr(1, 0, wrong)), badKind, api.Spot{At: 5}},
		{"two states", list(instr(0, 2, add), instr(0, 0, add)), badHigh, api.Spot{}},
	} {
		holdChange(t, change{x.name, func(o *api.Object) {
			for _, do := range x.do {
				do(o)
			}
		}, x.e, x.spot})
	}
}

// K5: of procedures and instructions that there are not.
func TestNoneThere(t *testing.T) {
	o := rightObject(t)
	for _, n := range list(-1, 2, math.MinInt, math.MaxInt) {
		if l, e := code.Heights(o, n); l != nil || e != badArg {
			t.Error(n, l, e)
		}
		if vars, stack, e := code.Types(o, n, 0); vars != nil || stack != nil || e != badArg {
			t.Error(n, vars, stack, e)
		}
	}
	for _, at := range list(-1, 2, 8, math.MinInt, math.MaxInt) {
		if vars, stack, e := code.Types(o, 1, at); vars != nil || stack != nil || e != badArg {
			t.Error(at, vars, stack, e)
		}
	}
	if l, e := code.Heights(api.Object{Path: "a"}, 0); l != nil || e != badArg {
		t.Error(l, e)
	}
	// What Object refuses comes ahead of what is not there.
	o.Procs[1].Name = "f"
	if l, e := code.Heights(o, 2); l != nil || e != badProc {
		t.Error(l, e)
	}
	if vars, stack, e := code.Types(o, -1, -1); vars != nil || stack != nil || e != badProc {
		t.Error(vars, stack, e)
	}
}
