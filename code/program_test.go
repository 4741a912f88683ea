package code_test

import (
	"math"
	"strconv"
	"strings"
	"testing"

	"treadle/api"
	"treadle/code"
)

// rightProgram is one with something of each kind.
func rightProgram(t *testing.T) api.Program {
	return api.Program{
		Consts: list(intOf(5), truthOf(true), textOf("x")),
		Procs: list(
			api.Proc{Name: "f", Export: true, Params: list(number), Locals: 2, Result: text, Code: asm(t, "load 0; const 0; lt; unless 6; const 2; give; call 1; const 2; give")},
			api.Proc{Name: "g", Code: asm(t, "return")},
			api.Proc{Name: "f", Export: true, Code: asm(t, "call 1; return")},
		),
		Points: list(api.Point{Path: "a", Name: "f"}, api.Point{Path: "lib/b", Name: "f", Proc: 2}),
	}
}

func holdProgram(t *testing.T, name string, e api.Errno, spot api.Spot, do func(p *api.Program)) {
	t.Helper()
	p := rightProgram(t)
	do(&p)
	gotSpot, got := code.Program(p)
	if gotSpot != spot || got != e {
		t.Errorf("%s: %v, %v, not %v, %v", name, gotSpot, got, spot, e)
	}
	if wantSpot, want := slowProgram(p); gotSpot != wantSpot || got != want {
		t.Errorf("%s: %v, %v, not %v, %v", name, gotSpot, got, wantSpot, want)
	}
}

func TestRightProgram(t *testing.T) {
	holdProgram(t, "as it is", ok, api.Spot{}, func(*api.Program) {})
	holdProgram(t, "of nothing", ok, api.Spot{}, func(p *api.Program) { *p = api.Program{} })
	holdProgram(t, "without points", ok, api.Spot{}, func(p *api.Program) { p.Points = nil })
	holdProgram(t, "names alike", ok, api.Spot{}, func(p *api.Program) { p.Procs[1].Name = "f" })
}

// K4: the points of a program.
func TestPoints(t *testing.T) {
	for name, x := range map[string]api.Point{
		"no procedure":         {Path: "c", Name: "f", Proc: 3},
		"below 0":              {Path: "c", Name: "f", Proc: -1},
		"the least":            {Path: "c", Name: "f", Proc: math.MinInt},
		"the greatest":         {Path: "c", Name: "f", Proc: math.MaxInt},
		"not exported":         {Path: "c", Name: "g", Proc: 1},
		"another name":         {Path: "c", Name: "g", Proc: 2},
		"no name":              {Path: "c", Proc: 2},
		"a longer name":        {Path: "c", Name: "ff", Proc: 2},
		"one that is there":    {Path: "a", Name: "f"},
		"of another procedure": {Path: "a", Name: "f", Proc: 2},
	} {
		holdProgram(t, name, badProc, api.Spot{}, func(p *api.Program) { p.Points = append(p.Points, x) })
		holdProgram(t, name+", ahead", badProc, api.Spot{}, func(p *api.Program) { p.Points = append(list(x), p.Points...) })
	}
	for _, s := range pathsThatAreNone() {
		holdProgram(t, "path "+s, badProc, api.Spot{}, func(p *api.Program) { p.Points[1].Path = s })
	}
	holdProgram(t, "another path", ok, api.Spot{}, func(p *api.Program) { p.Points = append(p.Points, api.Point{Path: "c", Name: "f"}) })
	holdProgram(t, "another name", ok, api.Spot{}, func(p *api.Program) {
		p.Procs[1].Export = true
		p.Points = append(p.Points, api.Point{Path: "a", Name: "g", Proc: 1})
	})
	// Where path and name meet is no matter: neither holds what parts them.
	holdProgram(t, "path and name in one row", ok, api.Spot{}, func(p *api.Program) {
		p.Procs[0].Name, p.Procs[2].Name = "bf", "f"
		p.Points = list(api.Point{Path: "a", Name: "bf"}, api.Point{Path: "ab", Name: "f", Proc: 2})
	})
	holdProgram(t, "a point of a procedure without a right name", badProc, api.Spot{Proc: 2}, func(p *api.Program) {
		p.Procs[2].Name, p.Points[1].Name = "if", "if"
	})
}

// K4: what holds of an object's constants, procedures and instructions holds of a program's.
func TestProgramLikewise(t *testing.T) {
	second := api.Spot{Proc: 1}
	for name, v := range map[string]api.Value{"no value": {}, "a field more": {Type: number, Bool: true}, "too long": textOf(strings.Repeat("x", api.MaxText+1))} {
		holdProgram(t, name, badProc, api.Spot{}, func(p *api.Program) { p.Consts = append(p.Consts, v) })
	}
	holdProgram(t, "no word", badProc, second, func(p *api.Program) { p.Procs[1].Name = "if" })
	holdProgram(t, "a parameter", badProc, api.Spot{Proc: 2}, func(p *api.Program) { p.Procs[2].Params, p.Procs[2].Locals = list(none), 1 })
	holdProgram(t, "a result", badProc, second, func(p *api.Program) { p.Procs[1].Result = 4 })
	holdProgram(t, "locals", badProc, second, func(p *api.Program) { p.Procs[1].Locals = 65 })
	holdProgram(t, "no instructions", badProc, second, func(p *api.Program) { p.Procs[1].Code = nil })
	holdProgram(t, "a constant", badOp, second, func(p *api.Program) { p.Procs[1].Code = asm(t, "const 3; return") })
	holdProgram(t, "a procedure", badOp, api.Spot{Proc: 1, At: 1}, func(p *api.Program) { p.Procs[1].Code = asm(t, "return; call 3") })
	holdProgram(t, "a jump", badJump, second, func(p *api.Program) { p.Procs[1].Code = asm(t, "jump 1") })
	holdProgram(t, "an end", badEnd, second, func(p *api.Program) { p.Procs[1].Code = asm(t, "const 0") })
	holdProgram(t, "a stack", badHigh, second, func(p *api.Program) { p.Procs[1].Code = asm(t, "drop; return") })
	holdProgram(t, "a kind", badKind, api.Spot{Proc: 1, At: 1}, func(p *api.Program) { p.Procs[1].Code = asm(t, "const 0; not; return") })
	for _, s := range list("outer 0; return", "outer 1; return", "outer 2147483647; return") {
		holdProgram(t, s, badOp, second, func(p *api.Program) { p.Procs[1].Code = asm(t, s) })
		holdProgram(t, "unreached "+s, badOp, api.Spot{Proc: 1, At: 1}, func(p *api.Program) { p.Procs[1].Code = asm(t, "return; "+s) })
	}
	holdProgram(t, "a point and a procedure", badProc, api.Spot{}, func(p *api.Program) { p.Procs[1].Code, p.Points[1].Proc = nil, 1 })
	holdProgram(t, "a point and an instruction", badProc, api.Spot{}, func(p *api.Program) { p.Procs[1].Code, p.Points[1].Name = asm(t, "jump 1"), "x" })
}

// K4: as many constants, procedures and points as there may be, and one more.
func TestProgramSizes(t *testing.T) {
	many := func(n int) (l []api.Proc) {
		for range n {
			l = append(l, api.Proc{Name: "p", Export: true, Code: list(api.Instr{Code: api.CodeReturn})})
		}
		return l
	}
	holdProgram(t, "65536 constants", ok, api.Spot{}, func(p *api.Program) {
		p.Consts = append(p.Consts, sized(65533, truthOf(true))...)
		p.Procs[1].Code = asm(t, "const 65535; not; drop; return")
	})
	holdProgram(t, "65537 constants", badProc, api.Spot{}, func(p *api.Program) { p.Consts = append(p.Consts, sized(65534, truthOf(true))...) })
	holdProgram(t, "4096 procedures", ok, api.Spot{}, func(p *api.Program) {
		p.Procs = append(p.Procs, many(4093)...)
		p.Procs[1].Code = asm(t, "call 4095; return")
	})
	holdProgram(t, "4097 procedures", badProc, api.Spot{}, func(p *api.Program) { p.Procs = append(p.Procs, many(4094)...) })
	holdProgram(t, "more points than procedures", ok, api.Spot{}, func(p *api.Program) {
		for n := range 2000 {
			p.Points = append(p.Points, api.Point{Path: "c" + strconv.Itoa(n), Name: "f", Proc: n % 2 * 2})
		}
	})
	holdProgram(t, "a point twice, far apart", badProc, api.Spot{}, func(p *api.Program) {
		for n := range 2000 {
			p.Points = append(p.Points, api.Point{Path: "c" + strconv.Itoa(n), Name: "f"})
		}
		p.Points = append(p.Points, api.Point{Path: "a", Name: "f", Proc: 2})
	})
	holdProgram(t, "the last of 4096 is wrong", badEnd, api.Spot{Proc: 4095}, func(p *api.Program) {
		p.Procs = append(p.Procs, many(4093)...)
		p.Procs[4095].Code = asm(t, "call 1")
	})
}
