package code_test

import (
	"encoding/binary"
	"fmt"
	"math"
	"slices"
	"strings"
	"sync"
	"testing"

	"treadle/api"
)

// The errors, and the types, by short names.
const (
	ok      = api.OK
	badArg  = api.ErrArg
	badOp   = api.ErrOp
	badJump = api.ErrJump
	badEnd  = api.ErrEnd
	badHigh = api.ErrStack
	badKind = api.ErrKinds
	badProc = api.ErrProc

	none   = api.TypeNone
	number = api.TypeInt
	truth  = api.TypeBool
	text   = api.TypeText
)

const greatest = math.MaxInt32

// row is a line of the chapter's table: of n, a blank stands for none; c is a constant, v a variable, p a place, f a procedure, o a need. Of what is taken: i, b and t are types, any a value, each a place of the stack, two is two of one type, ord two int or two text, f and o a head's parameters, r the result's type.
type row struct{ text, n, takes, lays string }

func table() []row {
	return []row{
		{"const", "c", "", "c"},
		{"load", "v", "", "v"},
		{"store", "v", "any", ""},
		{"drop", "", "each", ""},
		{"jump", "p", "", ""},
		{"unless", "p", "b", ""},
		{"call", "f", "f", "f"},
		{"outer", "o", "o", "o"},
		{"return", "", "", ""},
		{"give", "", "r", ""},
		{"print", "", "any", ""},
		{"eq", "", "two", "b"},
		{"ne", "", "two", "b"},
		{"lt", "", "ord", "b"},
		{"le", "", "ord", "b"},
		{"gt", "", "ord", "b"},
		{"ge", "", "ord", "b"},
		{"add", "", "ii", "i"},
		{"sub", "", "ii", "i"},
		{"join", "", "tt", "t"},
		{"mul", "", "ii", "i"},
		{"div", "", "ii", "i"},
		{"rem", "", "ii", "i"},
		{"neg", "", "i", "i"},
		{"not", "", "b", "b"},
		{"len", "", "t", "i"},
	}
}

func rowOf(i api.Instr) row { return tableOnce()[i.Code-1] }

var tableOnce = sync.OnceValue(table)

// slowForm tells whether an instruction has a form, and what that is.
func slowForm(i api.Instr) (line string, b []byte, good bool) {
	if i.Code < 1 || int(i.Code) > len(table()) || i.N < 0 || i.N > greatest {
		return "", nil, false
	}
	r := rowOf(i)
	if r.n == "" {
		return r.text, []byte{byte(i.Code)}, i.N == 0
	}
	return fmt.Sprintf("%s %d", r.text, i.N), binary.AppendUvarint([]byte{byte(i.Code)}, uint64(i.N)), true
}

func slowBytes(l []api.Instr) ([]byte, bool) {
	all := binary.AppendUvarint(nil, uint64(len(l)))
	for _, i := range l {
		_, b, good := slowForm(i)
		if !good {
			return nil, false
		}
		all = append(all, b...)
	}
	return all, true
}

func slowLines(l []api.Instr) ([]string, bool) {
	var all []string
	for _, i := range l {
		s, _, good := slowForm(i)
		if !good {
			return nil, false
		}
		all = append(all, s)
	}
	return all, true
}

// slowNumber reads a short number as layer 1 does.
func slowNumber(b []byte, most uint64) (n uint64, size int, e api.Errno) {
	for i := 0; ; i++ {
		switch {
		case i >= len(b):
			return 0, 0, api.ErrShort
		case i == 9 && b[i] > 1:
			return 0, 0, api.ErrWide
		case i > 0 && b[i] == 0:
			return 0, 0, api.ErrForm
		}
		n += uint64(b[i]%128) << (7 * i)
		if b[i] < 128 {
			if n > most {
				return 0, 0, api.ErrCount
			}
			return n, i + 1, ok
		}
	}
}

func slowRead(b []byte) ([]api.Instr, api.Fault) {
	many, at, e := slowNumber(b, api.MaxCode)
	if e != ok {
		return nil, api.Fault{Why: e}
	}
	var l []api.Instr
	for range many {
		if at >= len(b) {
			return nil, api.Fault{Why: api.ErrShort, At: at}
		}
		i := api.Instr{Code: api.Code(b[at])}
		if i.Code < 1 || i.Code > 26 {
			return nil, api.Fault{Why: api.ErrForm, At: at}
		}
		at++
		if rowOf(i).n != "" {
			n, size, e := slowNumber(b[at:], greatest)
			if e != ok {
				return nil, api.Fault{Why: e, At: at}
			}
			i.N, at = int(n), at+size
		}
		l = append(l, i)
	}
	if at < len(b) {
		return nil, api.Fault{Why: api.ErrMore, At: at}
	}
	return l, api.Fault{}
}

// slowLine finds the instruction of a line by what its line would be.
func slowLine(s string) (api.Instr, bool) {
	for c := range table() {
		i := api.Instr{Code: api.Code(c + 1)}
		fmt.Sscanf(strings.TrimPrefix(s, rowOf(i).text), " %d", &i.N)
		if back, _, good := slowForm(i); good && back == s {
			return i, true
		}
	}
	return api.Instr{}, false
}

// asm are instructions of lines, with `;` between.
func asm(t *testing.T, s string) (l []api.Instr) {
	t.Helper()
	for _, line := range strings.Split(s, ";") {
		i, good := slowLine(strings.TrimSpace(line))
		if !good {
			t.Fatalf("%q is no instruction", line)
		}
		l = append(l, i)
	}
	return l
}

// slowState is what is known ahead of an instruction. Types are written as letters, TypeNone as @.
type slowState struct {
	reached     bool
	vars, stack string
	unlike      bool
}

// letter is a type's. Of types that are none tests have -9, 4 and 9 alone, whose letters mean nothing else.
func letter(t api.Type) string { return string(rune('@' + t)) }

func letters(l []api.Type) (s string) {
	for _, t := range l {
		s += letter(t)
	}
	return s
}

func slowRow(a, b string) (s string) {
	for i := range a {
		if a[i] == b[i] {
			s += a[i : i+1]
		} else {
			s += "@"
		}
	}
	return s
}

func slowJoin(a, b slowState) slowState {
	switch {
	case !a.reached:
		return b
	case !b.reached:
		return a
	case a.unlike || b.unlike || len(a.stack) != len(b.stack):
		return slowState{true, slowRow(a.vars, b.vars), "", true}
	}
	return slowState{true, slowRow(a.vars, b.vars), slowRow(a.stack, b.stack), false}
}

// slowWorld is what instructions may name; what holds of programs alone stands beside it.
type slowWorld struct {
	consts  []api.Value
	needs   []api.Need
	procs   []api.Proc
	program bool
}

// slowTaken are the letters of what is taken: ? for any, ! for whatever lies there; = twice of two, < twice of ord.
func (w slowWorld) slowTaken(p api.Proc, i api.Instr) string {
	switch r := rowOf(i); r.takes {
	case "f", "o":
		return w.heads(i, false)
	case "r":
		return letter(p.Result)
	default:
		return slowMarks()[r.takes]
	}
}

var slowMarks = sync.OnceValue(func() map[string]string {
	return map[string]string{
		"any": "?", "each": "!", "two": "==", "ord": "<<",
		"i": letter(number), "b": letter(truth), "t": letter(text), "ii": letter(number) + letter(number), "tt": letter(text) + letter(text),
	}
})

// heads are the letters of a head's parameters, or of its result.
func (w slowWorld) heads(i api.Instr, result bool) string {
	var params []api.Type
	var given api.Type
	switch rowOf(i).n {
	case "f":
		params, given = w.procs[i.N].Params, w.procs[i.N].Result
	case "o":
		params, given = w.needs[i.N].Params, w.needs[i.N].Result
	}
	if result {
		return strings.TrimPrefix(letter(given), "@")
	}
	return letters(params)
}

func (w slowWorld) slowLaid(i api.Instr, s slowState) string {
	switch l := rowOf(i).lays; l {
	case "":
		return ""
	case "c":
		return letter(w.consts[i.N].Type)
	case "v":
		return s.vars[i.N : i.N+1]
	case "f", "o":
		return w.heads(i, true)
	default:
		return slowMarks()[l]
	}
}

func (w slowWorld) slowBehind(p api.Proc, i api.Instr, s slowState) slowState {
	took, laid := len(w.slowTaken(p, i)), w.slowLaid(i, s)
	out := s
	if rowOf(i).text == "store" {
		top := "@"
		if !s.unlike && s.stack != "" {
			top = s.stack[len(s.stack)-1:]
		}
		out.vars = s.vars[:i.N] + top + s.vars[i.N+1:]
	}
	if s.unlike || len(s.stack) < took || len(s.stack)-took+len(laid) > 128 {
		out.stack, out.unlike = "", true
		return out
	}
	out.stack = s.stack[:len(s.stack)-took] + laid
	return out
}

// slowNext are where an instruction goes on; a place behind the last one, too.
func slowNext(i api.Instr, at int) []int {
	switch rowOf(i).text {
	case "return", "give":
		return nil
	case "jump":
		return []int{i.N}
	case "unless":
		return []int{i.N, at + 1}
	}
	return []int{at + 1}
}

// slowStates go over the whole procedure from nothing known on, till nothing changes.
func (w slowWorld) slowStates(p api.Proc) []slowState {
	begin := slowState{reached: true, vars: letters(p.Params) + strings.Repeat("@", p.Locals-len(p.Params))}
	states := make([]slowState, len(p.Code)+1)
	for {
		next := make([]slowState, len(p.Code)+1)
		next[0] = begin
		for at, i := range p.Code {
			if !states[at].reached {
				continue
			}
			for _, to := range slowNext(i, at) {
				next[to] = slowJoin(next[to], w.slowBehind(p, i, states[at]))
			}
		}
		if slices.Equal(states, next) {
			return states[:len(p.Code)]
		}
		states = next
	}
}

// slowFit tells whether what lies on the stack is what is taken.
func slowFit(taken, want string) bool {
	for i := range want {
		switch c := taken[i]; {
		case want[i] == '!':
		case c == '@':
			return false
		case want[i] == '?':
		case want[i] == '=' || want[i] == '<':
			if c != taken[0] || want[i] == '<' && !strings.Contains(letters([]api.Type{number, text}), taken[:1]) {
				return false
			}
		case c != want[i]:
			return false
		}
	}
	return true
}

func (w slowWorld) slowAt(p api.Proc, at int, s slowState) api.Errno {
	i := p.Code[at]
	if !s.reached {
		return ok
	}
	if slices.Contains(slowNext(i, at), len(p.Code)) {
		return badEnd
	}
	r, want, laid := rowOf(i), w.slowTaken(p, i), w.slowLaid(i, s)
	if s.unlike || len(s.stack) < len(want) || len(s.stack)-len(want)+len(laid) > 128 || r.text == "return" && p.Result != 0 || r.text == "give" && p.Result == 0 {
		return badHigh
	}
	if !slowFit(s.stack[len(s.stack)-len(want):], want) || r.text == "load" && laid == "@" {
		return badKind
	}
	return ok
}

func (w slowWorld) slowAlone(p api.Proc, i api.Instr) api.Errno {
	if _, _, good := slowForm(i); !good {
		return badOp
	}
	bounds := map[string]int{"c": len(w.consts), "v": p.Locals, "f": len(w.procs), "o": len(w.needs), "": 1}
	if bound, there := bounds[rowOf(i).n]; there && i.N >= bound {
		return badOp
	}
	if rowOf(i).n == "p" && i.N >= len(p.Code) {
		return badJump
	}
	return ok
}

func (w slowWorld) slowProc(n int) (int, api.Errno) {
	p := w.procs[n]
	twice := slices.IndexFunc(w.procs, func(x api.Proc) bool { return x.Name == p.Name }) < n && !w.program
	if twice || !slowWord(p.Name) || !slowHead(p.Params, p.Result) || p.Locals < len(p.Params) || p.Locals > 64 || len(p.Code) == 0 || len(p.Code) > 16384 {
		return 0, badProc
	}
	for at, i := range p.Code {
		if e := w.slowAlone(p, i); e != ok {
			return at, e
		}
	}
	for at, s := range w.slowStates(p) {
		if e := w.slowAt(p, at, s); e != ok {
			return at, e
		}
	}
	return 0, ok
}

func (w slowWorld) slowWrong() (api.Spot, api.Errno) {
	for n := range w.procs {
		if at, e := w.slowProc(n); e != ok {
			return api.Spot{Proc: n, At: at}, e
		}
	}
	return api.Spot{}, ok
}

// slowWord knows the words, and what is none, that tests have for names.
func slowWord(s string) bool {
	return s != "" && s != "if" && s != "1" && s != "a b" && s != "a-b" && len(s) <= 32
}

// slowPath knows the paths, and what is none, likewise.
func slowPath(s string) bool {
	return !slices.Contains([]string{"", "/a", "a/", "..", "a//b", "a b", "a/..", "./a"}, s) && strings.Count(s, "/") < 32 && len(s) < 65
}

func slowType(t api.Type) bool { return 1 <= t && t <= 3 }

func slowHead(params []api.Type, result api.Type) bool {
	good := len(params) <= 64 && (result == 0 || slowType(result))
	for _, t := range params {
		good = good && slowType(t)
	}
	return good
}

func slowValue(v api.Value) bool {
	fields := []bool{v.Int != 0, v.Bool, v.Text != ""}
	for i, set := range fields {
		if set && int(v.Type) != i+1 {
			return false
		}
	}
	return slowType(v.Type) && len(v.Text) <= 4096
}

func slowObject(o api.Object) (api.Spot, api.Errno) {
	good := slowPath(o.Path) && len(o.Consts) <= 4096 && len(o.Needs) <= 4096 && len(o.Procs) <= 128
	for _, v := range o.Consts {
		good = good && slowValue(v)
	}
	for _, n := range o.Needs {
		good = good && slowPath(n.Path) && slowWord(n.Name) && slowHead(n.Params, n.Result)
	}
	if !good {
		return api.Spot{}, badProc
	}
	return slowWorld{o.Consts, o.Needs, o.Procs, false}.slowWrong()
}

func slowProgram(p api.Program) (api.Spot, api.Errno) {
	good := len(p.Consts) <= 65536 && len(p.Procs) <= 4096
	for _, v := range p.Consts {
		good = good && slowValue(v)
	}
	for i, x := range p.Points {
		good = good && slowPath(x.Path) && x.Proc >= 0 && x.Proc < len(p.Procs) && p.Procs[x.Proc].Export && p.Procs[x.Proc].Name == x.Name
		for _, y := range p.Points[:i] {
			good = good && (x.Path != y.Path || x.Name != y.Name)
		}
	}
	if !good {
		return api.Spot{}, badProc
	}
	return slowWorld{p.Consts, nil, p.Procs, true}.slowWrong()
}

// slowHeights are of states what Heights tells.
func slowHeights(states []slowState) (l []int) {
	for _, s := range states {
		if s.reached {
			l = append(l, len(s.stack))
		} else {
			l = append(l, -1)
		}
	}
	return l
}
