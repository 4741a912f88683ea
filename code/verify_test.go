package code_test

import (
	"fmt"
	"slices"
	"strings"
	"testing"

	"treadle/api"
	"treadle/code"
)

// world is an object whose procedure f is to be looked at: constants 0 a number, 1 a truth, 2 a text; needs and procedures besides.
func world(f api.Proc) api.Object {
	f.Name = "f"
	end := list(api.Instr{Code: api.CodeJump})
	return api.Object{
		Path:   "a",
		Consts: list(intOf(5), truthOf(true), textOf("x")),
		Needs: list(
			api.Need{Path: "b", Name: "none"},
			api.Need{Path: "b", Name: "mixed", Params: list(number, truth, text), Result: text},
		),
		Procs: list(f,
			api.Proc{Name: "none", Code: end},
			api.Proc{Name: "mixed", Params: list(number, truth, text), Locals: 3, Result: text, Code: end},
			api.Proc{Name: "takes", Params: list(truth), Locals: 1, Code: end},
			api.Proc{Name: "gives", Result: truth, Code: end},
		),
	}
}

// told is what Object must say of a procedure's lines; At is meant of procedure 0.
type told struct {
	code   string
	result api.Type
	e      api.Errno
	at     int
}

func holdTold(t *testing.T, locals int, l ...told) {
	t.Helper()
	for _, x := range l {
		o := world(api.Proc{Locals: locals, Result: x.result, Code: asm(t, x.code)})
		if spot, e := code.Object(o); spot != (api.Spot{At: x.at}) || e != x.e {
			t.Errorf("%s: %v, %v, not %d, %v", x.code, spot, e, x.at, x.e)
		}
		holdObject(t, o)
		holdStates(t, o, x.e)
	}
}

// K4: the examples of the chapter.
func TestVerifierExamples(t *testing.T) {
	holdTold(t, 2,
		told{"const 0; give", number, ok, 0},
		told{"const 1; give", number, badKind, 1},
		told{"give", number, badHigh, 0},
		told{"const 0", number, badEnd, 0},
		told{"const 1; unless 3; const 0; return", none, badHigh, 3},
		told{"const 1; unless 4; const 0; store 0; load 0; give", number, badKind, 4},
		told{"jump 0", none, ok, 0},
		told{"jump 0", text, ok, 0},
		told{"return; add", none, ok, 0},
	)
}

// K4: jumps to the first, to the last, to themselves, and loops.
func TestJumps(t *testing.T) {
	holdTold(t, 2,
		told{"jump 1; return", none, ok, 0},
		told{"jump 2; drop; return", none, ok, 0},
		told{"jump 1; jump 1", none, ok, 0},
		told{"jump 1; jump 0", number, ok, 0},
		told{"jump 2; return", none, badJump, 0},
		told{"const 1; unless 0; return", none, ok, 0},
		told{"const 1; unless 1; return", none, badHigh, 1},
		told{"const 1; unless 2", none, badJump, 1},
		told{"const 1; unless 0", none, badEnd, 1},
		told{"unless 0; return", none, badHigh, 0},
		told{"const 0; jump 0", none, badHigh, 0},
		told{"const 1; drop; const 1; unless 0; return", none, ok, 0},
		told{"const 0; const 1; unless 1; drop; return", none, ok, 0},
		told{"const 0; store 0; load 0; const 0; lt; unless 11; load 0; const 0; add; store 0; jump 2; return", none, ok, 0},
		// A loop that changes a variable's type, or the stack, is told where that is met.
		told{"const 0; store 0; load 0; print; const 2; store 0; jump 2", none, badKind, 2},
		told{"const 0; store 0; load 0; print; const 2; drop; jump 2", none, ok, 0},
		told{"const 0; const 0; add; const 1; unless 1; drop; return", none, ok, 0},
		told{"const 0; const 0; lt; const 1; unless 1; drop; return", none, badKind, 2},
	)
}

// K4: two ways that join.
func TestJoins(t *testing.T) {
	holdTold(t, 2,
		// Alike, of unlike types, of unlike length.
		told{"const 1; unless 4; const 0; jump 5; const 0; give", number, ok, 0},
		told{"const 1; unless 4; const 0; jump 5; const 2; give", number, badKind, 5},
		told{"const 1; unless 4; const 0; jump 5; const 2; give", text, badKind, 5},
		told{"const 1; unless 4; const 0; jump 5; const 2; drop; return", none, ok, 0},
		told{"const 1; unless 4; const 0; jump 5; const 2; print; return", none, badKind, 5},
		told{"const 1; unless 4; const 0; jump 5; const 2; store 0; return", none, badKind, 5},
		told{"const 1; unless 4; const 0; jump 5; const 2; return", none, ok, 0},
		told{"const 1; unless 5; const 0; const 0; jump 6; const 2; return", none, badHigh, 6},
		told{"const 1; unless 5; const 0; const 0; jump 6; const 2; drop; return", none, badHigh, 6},
		told{"const 1; unless 5; const 0; const 0; jump 6; const 2; jump 6", none, badHigh, 6},
		// A value below an unlike one is as it was.
		told{"const 2; const 1; unless 5; const 0; jump 6; const 2; drop; give", text, ok, 0},
		told{"const 2; const 1; unless 5; const 0; jump 6; const 2; add; give", number, badKind, 6},
		// What is unlike once stays so, whatever it comes to.
		told{"const 1; unless 3; const 0; jump 4; return", none, badHigh, 3},
		told{"const 1; unless 3; const 0; const 0; return", none, badHigh, 3},
		// Variables that are set on one way alone, on both, to unlike types.
		told{"const 1; unless 4; const 0; store 0; return", none, ok, 0},
		told{"const 1; unless 4; const 0; store 0; load 0; drop; return", none, badKind, 4},
		told{"const 1; unless 5; const 0; store 0; jump 7; const 0; store 0; load 0; print; return", none, ok, 0},
		told{"const 1; unless 5; const 0; store 0; jump 7; const 2; store 0; load 0; print; return", none, badKind, 7},
		told{"const 1; unless 5; const 0; store 0; jump 7; const 0; store 1; load 0; print; return", none, badKind, 7},
		told{"const 1; unless 5; const 0; store 0; jump 7; const 2; store 0; const 0; store 0; load 0; print; return", none, ok, 0},
		// A third way joins.
		told{"const 1; unless 7; const 1; unless 8; const 0; store 0; jump 9; jump 9; jump 9; return", none, ok, 0},
	)
}

// K4: an end behind the last instruction, which nothing needs to reach.
func TestEnds(t *testing.T) {
	holdTold(t, 2,
		told{"call 1", none, badEnd, 0},
		told{"return; call 1", none, ok, 0},
		told{"jump 2; call 1; jump 0", none, ok, 0},
		told{"drop", none, badEnd, 0},
		told{"load 0", none, badEnd, 0},
		told{"const 0; print", none, badEnd, 1},
		told{"const 1; unless 3; return; const 0", none, badEnd, 3},
		told{"const 1; unless 3; return; jump 3", none, ok, 0},
		told{"const 0; add; const 0", none, badHigh, 1},
		told{"jump 2; return; add", none, badEnd, 2},
	)
}

// K4: return and give in procedures with a result and without.
func TestReturnAndGive(t *testing.T) {
	for n, of := range list(number, truth, text) {
		lay := fmt.Sprintf("const %d; ", n)
		for _, result := range list(none, number, truth, text) {
			e := list(ok, badKind, badHigh)
			switch {
			case result == none:
				holdTold(t, 0, told{lay + "give", result, e[2], 1}, told{lay + "return", result, ok, 0})
			case result == of:
				holdTold(t, 0, told{lay + "give", result, ok, 0}, told{lay + lay + "give", result, ok, 0}, told{lay + "return", result, e[2], 1})
			default:
				holdTold(t, 0, told{lay + "give", result, e[1], 1}, told{lay + "return", result, e[2], 1})
			}
		}
	}
	holdTold(t, 1,
		told{"give", none, badHigh, 0},
		told{"return", none, ok, 0},
		told{"return", text, badHigh, 0},
		told{"load 0; give", none, badKind, 0},
		told{"const 1; unless 3; return; const 0; give", none, badHigh, 4},
		told{"const 1; unless 3; return; const 0; give", number, badHigh, 2},
	)
}

// K4: calls of procedures with and without parameters and results, ahead and behind, of themselves, and of needs.
func TestCalls(t *testing.T) {
	for _, mixed := range list("call 2", "outer 1") {
		holdTold(t, 0,
			told{"const 0; const 1; const 2; " + mixed + "; give", text, ok, 0},
			told{"const 2; const 0; const 1; const 2; " + mixed + "; join; give", text, ok, 0},
			told{"const 2; const 1; const 0; " + mixed + "; give", text, badKind, 3},
			told{"const 0; const 1; const 1; " + mixed + "; give", text, badKind, 3},
			told{"const 0; const 0; const 2; " + mixed + "; give", text, badKind, 3},
			told{"const 2; const 1; const 2; " + mixed + "; give", text, badKind, 3},
			told{"const 0; const 1; const 2; " + mixed + "; give", number, badKind, 4},
			told{"const 1; const 2; " + mixed + "; give", text, badHigh, 2},
			told{mixed + "; give", text, badHigh, 0},
			told{"const 0; const 1; const 2; " + mixed + "; drop; drop; return", none, badHigh, 5},
			told{"const 0; const 1; const 2; " + mixed, text, badEnd, 3},
		)
	}
	holdTold(t, 0,
		told{"call 0; call 1; outer 0; return", none, ok, 0},
		told{"call 1; drop; return", none, badHigh, 1},
		told{"outer 0; drop; return", none, badHigh, 1},
		told{"call 0; give", number, ok, 0},
		told{"call 0; add; give", number, badHigh, 1},
		told{"call 0; call 0; add; give", number, ok, 0},
		told{"call 0; call 0; add; give", text, badKind, 2},
		told{"call 4; call 3; return", none, ok, 0},
		told{"call 3; return", none, badHigh, 0},
		told{"const 0; call 3; return", none, badKind, 1},
		told{"call 5; return", none, badOp, 0},
		told{"outer 2; return", none, badOp, 0},
	)
}

// K4: a procedure that is called is taken as its head says, though that is wrong itself and told where it stands.
func TestCallsOfWrongHeads(t *testing.T) {
	for _, x := range []struct {
		callee api.Proc
		code   string
		e      api.Errno
		spot   api.Spot
	}{
		{api.Proc{Result: 9}, "call 1; drop; return", badProc, api.Spot{Proc: 1}},
		{api.Proc{Result: 9}, "call 1; give", badKind, api.Spot{At: 1}},
		{api.Proc{Result: 9}, "call 1; call 1; eq; drop; return", badProc, api.Spot{Proc: 1}},
		{api.Proc{Result: 9}, "call 1; call 1; lt; drop; return", badKind, api.Spot{At: 2}},
		{api.Proc{Result: -9}, "call 1; call 1; ge; drop; return", badKind, api.Spot{At: 2}},
		{api.Proc{Params: list(none), Locals: 1}, "const 0; call 1; return", badKind, api.Spot{At: 1}},
		{api.Proc{Params: list(none), Locals: 1}, "const 1; unless 4; const 0; jump 5; const 1; call 1; return", badKind, api.Spot{At: 5}},
		{api.Proc{Params: sized(65, number), Locals: 65}, strings.Repeat("const 0; ", 65) + "call 1; return", badProc, api.Spot{Proc: 1}},
		{api.Proc{Params: sized(129, number)}, strings.Repeat("const 0; ", 128) + "call 1; return", badHigh, api.Spot{At: 128}},
		{api.Proc{Name: "f"}, "call 1; return", badProc, api.Spot{Proc: 1}},
	} {
		if x.callee.Name == "" {
			x.callee.Name = "g"
		}
		x.callee.Code = asm(t, "jump 0")
		f := api.Proc{Name: "f", Code: asm(t, x.code)}
		if slices.Contains(list("call 1; give"), x.code) {
			f.Result = number
		}
		o := api.Object{Path: "a", Consts: list(intOf(1), truthOf(true)), Procs: list(f, x.callee)}
		if spot, e := code.Object(o); spot != x.spot || e != x.e {
			t.Errorf("%s: %v, %v, not %v, %v", x.code, spot, e, x.spot, x.e)
		}
		holdObject(t, o)
	}
}

// K4: each instruction with each pair of types on the stack, and with too few values.
func TestEachPair(t *testing.T) {
	types := list(number, truth, text)
	lay := func(v api.Type) string { return fmt.Sprintf("const %d; ", v-1) }
	met := map[string]int{}
	for c := range table() {
		i := api.Instr{Code: api.Code(c + 1)}
		if rowOf(i).n == "p" {
			continue
		}
		line, _, _ := slowForm(i)
		for _, result := range append(list(none), types...) {
			all := list(line+"; jump 0", line+"; return")
			for _, a := range types {
				all = append(all, lay(a)+line+"; drop; jump 0", lay(a)+line+"; drop; return", lay(a)+line+"; store 0; load 0; give")
				for _, b := range types {
					for _, behind := range list("drop; jump 0", "return", "give", "store 0; load 0; give", "store 0; load 0; add; give", "store 0; load 0; join; give", "store 0; load 0; unless 0; jump 0") {
						all = append(all, lay(a)+lay(b)+line+"; "+behind)
					}
				}
			}
			for _, s := range all {
				o := world(api.Proc{Params: list(number), Locals: 2, Result: result, Code: asm(t, s)})
				e := holdObject(t, o)
				holdStates(t, o, e)
				met[fmt.Sprint(line, " ", e)]++
			}
		}
	}
	for c := range table() {
		i := api.Instr{Code: api.Code(c + 1)}
		line, _, _ := slowForm(i)
		if rowOf(i).n != "p" && met[line+" "+fmt.Sprint(ok)] == 0 {
			t.Error(line, "is never taken")
		}
	}
}

// K4: of the operators the types are told one by one.
func TestOperators(t *testing.T) {
	types := list(number, truth, text)
	want := map[string]func(a, b api.Type) api.Type{}
	both := func(of, lays api.Type) func(a, b api.Type) api.Type {
		return func(a, b api.Type) api.Type {
			if a == of && b == of {
				return lays
			}
			return none
		}
	}
	for _, s := range list("add", "sub", "mul", "div", "rem") {
		want[s] = both(number, number)
	}
	want["join"] = both(text, text)
	for _, s := range list("eq", "ne", "lt", "le", "gt", "ge") {
		want[s] = func(a, b api.Type) api.Type {
			if a == b && (a != truth || s == "eq" || s == "ne") {
				return truth
			}
			return none
		}
	}
	for s, f := range want {
		for _, a := range types {
			for _, b := range types {
				line := fmt.Sprintf("const %d; const %d; %s; give", a-1, b-1, s)
				if lays := f(a, b); lays == none {
					holdTold(t, 0, told{line, number, badKind, 2})
				} else {
					holdTold(t, 0, told{line, lays, ok, 0})
				}
			}
			holdTold(t, 0, told{fmt.Sprintf("const %d; %s; give", a-1, s), number, badHigh, 1})
		}
		holdTold(t, 0, told{s + "; give", number, badHigh, 0})
	}
	for s, x := range map[string][2]api.Type{"neg": {number, number}, "not": {truth, truth}, "len": {text, number}} {
		for _, a := range types {
			line := fmt.Sprintf("const %d; %s; give", a-1, s)
			if a == x[0] {
				holdTold(t, 0, told{line, x[1], ok, 0})
			} else {
				holdTold(t, 0, told{line, x[1], badKind, 1})
			}
		}
		holdTold(t, 0, told{s + "; give", x[1], badHigh, 0})
	}
	for _, a := range types {
		for _, s := range list("print", "drop", "store 0") {
			holdTold(t, 1, told{fmt.Sprintf("const %d; %s; return", a-1, s), none, ok, 0}, told{s + "; return", none, badHigh, 0})
		}
		e := badKind
		if a == truth {
			e = ok
		}
		spot := map[api.Errno]int{badKind: 1}
		holdTold(t, 0, told{fmt.Sprintf("const %d; unless 2; return", a-1), none, e, spot[e]})
	}
}

// K4: stacks of as many values as there may be, and of one more, by each instruction that lays one.
func TestHighStacks(t *testing.T) {
	high := func(n int) string { return strings.Repeat("const 0; ", n) }
	holdTold(t, 1,
		told{high(128) + "return", none, ok, 0},
		told{high(129) + "return", none, badHigh, 128},
		told{high(130) + "return", none, badHigh, 128},
		told{high(128) + "call 0; return", none, ok, 0},
		told{high(128) + "call 4; return", none, badHigh, 128},
		told{high(127) + "call 4; return", none, ok, 0},
		told{high(128) + "load 0; return", none, badHigh, 128},
		told{"const 0; store 0; " + high(128) + "load 0; return", none, badHigh, 130},
		told{"const 0; store 0; " + high(127) + "load 0; return", none, ok, 0},
		told{high(127) + "load 0; return", none, badKind, 127},
		told{high(128) + "neg; return", none, ok, 0},
		told{high(128) + "add; const 0; return", none, ok, 0},
		told{high(128) + "add; const 0; const 0; return", none, badHigh, 130},
		told{high(128) + "drop; const 0; return", none, ok, 0},
		told{high(128) + "print; const 0; const 0; return", none, badHigh, 130},
		told{high(128) + "give", number, ok, 0},
		told{high(125) + "const 0; const 1; const 2; call 2; const 0; const 0; return", none, ok, 0},
		told{high(125) + "const 0; const 1; const 2; outer 1; const 0; const 0; const 0; return", none, badHigh, 131},
		told{high(128) + "const 0", none, badEnd, 128},
	)
}

// K4: instructions that nothing reaches may be wrong by the states, not by themselves.
func TestUnreached(t *testing.T) {
	holdTold(t, 1,
		told{"return; give; drop; add; load 0; const 0; call 2; store 0", none, ok, 0},
		told{"jump 3; add; drop; return", none, ok, 0},
		told{"jump 3; load 0; give; return", none, ok, 0},
		told{"return; const 3", none, badOp, 1},
		told{"return; load 1", none, badOp, 1},
		told{"return; jump 2", none, badJump, 1},
		told{"return; call 1; unless 3", none, badJump, 2},
		told{"return; jump 1", none, ok, 0},
		told{"return; unless 0", none, ok, 0},
		// What is unreached leads nowhere: it joins nothing.
		told{"jump 3; const 0; const 0; return", none, ok, 0},
		told{"const 0; store 0; jump 5; const 2; store 0; load 0; give", number, ok, 0},
	)
}

// K4: the verifier goes on behind what is wrong; the first instruction that is wrong is told, not the first that was met.
func TestFirstByNumber(t *testing.T) {
	holdTold(t, 2,
		told{"jump 2; add; jump 4; return; drop; jump 1", none, badHigh, 1},
		told{"jump 3; add; return; const 1; unless 1; drop; return", none, badHigh, 1},
		told{"const 0; not; drop; add; return", none, badKind, 1},
		told{"const 0; not; add; drop; return", none, badKind, 1},
		// What a wrong instruction lays is as told, and behind too few values the stack is unlike.
		told{"const 0; not; give", truth, badKind, 1},
		told{"jump 3; give; return; const 0; not; jump 1", number, badKind, 1},
		told{"jump 3; give; return; const 0; not; jump 1", truth, badKind, 4},
		told{"jump 2; return; drop; jump 1", none, badHigh, 1},
		told{"jump 2; return; drop; const 0; jump 1", none, badHigh, 1},
		// Behind a store of nothing the variable is of no type.
		told{"jump 4; load 0; drop; return; store 0; jump 1", none, badHigh, 1},
		told{"const 0; store 0; jump 6; load 0; drop; return; store 0; jump 3", none, badHigh, 3},
		// Of an unset variable that is loaded all the same nothing is known.
		told{"jump 3; print; return; load 0; jump 1", none, badKind, 1},
		told{"jump 3; drop; return; load 0; jump 1", none, badKind, 3},
	)
}

// K5: heights and types, instruction by instruction.
func TestHeightsAndTypes(t *testing.T) {
	o := world(api.Proc{Params: list(text), Locals: 3, Result: number, Code: asm(t, "load 0; len; store 2; const 1; unless 8; const 0; store 1; jump 10; const 2; store 1; load 2; give; drop")})
	heights, e := code.Heights(o, 0)
	if want := list(0, 1, 1, 0, 1, 0, 1, 0, 0, 1, 0, 1, -1); e != ok || !slices.Equal(heights, want) {
		t.Errorf("%v, %v, not %v", heights, e, want)
	}
	for at, want := range strings.Split("t-- |t-- t|t-- i|t-i |t-i b|t-i |t-i i|tii |t-i |t-i t|t-i |t-i i| ", "|") {
		vars, stack, e := code.Types(o, 0, at)
		if got := shown(vars) + " " + shown(stack); got != want || e != ok {
			t.Errorf("%d: %q, %v, not %q", at, got, e, want)
		}
	}
	for n, want := range [][]int{1: {0}, 2: {0}, 3: {0}, 4: {0}} {
		if heights, e := code.Heights(o, n); n > 0 && (e != ok || !slices.Equal(heights, want)) {
			t.Errorf("%d: %v, %v", n, heights, e)
		}
	}
	if vars, stack, e := code.Types(o, 2, 0); shown(vars) != "ibt" || len(stack) > 0 || e != ok {
		t.Error(vars, stack, e)
	}
	if vars, stack, e := code.Types(o, 1, 0); len(vars)+len(stack) > 0 || e != ok {
		t.Error(vars, stack, e)
	}
}

// shown are types in short.
func shown(l []api.Type) (s string) {
	for _, t := range l {
		s += string("-ibt"[t])
	}
	return s
}

// K5: where unlike types were joined, none is told.
func TestTypesOfJoins(t *testing.T) {
	o := world(api.Proc{Params: list(text, text), Locals: 3, Code: asm(t, "const 0; const 1; unless 7; const 0; store 0; const 0; jump 10; const 0; store 2; const 2; drop; return; return")})
	for at, want := range map[int]string{0: "tt- ", 3: "tt- i", 6: "it- ii", 7: "tt- i", 10: "-t- i-", 11: "-t- i", 12: " "} {
		vars, stack, e := code.Types(o, 0, at)
		if got := shown(vars) + " " + shown(stack); got != want || e != ok {
			t.Errorf("%d: %q, %v, not %q", at, got, e, want)
		}
	}
	if heights, e := code.Heights(o, 0); e != ok || !slices.Equal(heights, list(0, 1, 2, 1, 2, 1, 2, 1, 2, 1, 2, 1, -1)) {
		t.Error(heights, e)
	}
}

// K4, K5: a long procedure in which what is known of variables goes from one to the next, a round of the loop each.
func TestSlowRounds(t *testing.T) {
	var lines []string
	for n := range 63 {
		lines = append(lines, fmt.Sprintf("load %d; store %d", n+1, n))
	}
	body := strings.Join(lines, "; ")
	ring := "; const 1; unless 0; return"
	o := world(api.Proc{Params: sized(64, number), Locals: 64, Code: asm(t, body+"; const 0; store 63"+ring)})
	if e := holdObject(t, o); e != ok {
		t.Error(e)
	}
	o = world(api.Proc{Params: sized(64, number), Locals: 64, Code: asm(t, body+"; const 2; store 63"+ring)})
	spot, e := code.Object(o)
	if spot != (api.Spot{}) || e != badKind {
		t.Error(spot, e)
	}
	holdObject(t, o)
}
