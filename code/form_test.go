package code_test

import (
	"math"
	"slices"
	"strings"
	"testing"

	"treadle/api"
	"treadle/code"
)

// K1: each code has the text that the chapter tells, and no other number has one.
func TestName(t *testing.T) {
	names := strings.Fields("const load store drop jump unless call outer return give print eq ne lt le gt ge add sub join mul div rem neg not len")
	if len(names) != 26 || api.CodeCount != 27 {
		t.Fatal(len(names), api.CodeCount)
	}
	for n, want := range names {
		if s, e := code.Name(api.Code(n + 1)); s != want || e != ok {
			t.Errorf("Name(%d): %q, %v", n+1, s, e)
		}
		if c, e := code.Find(want); c != api.Code(n+1) || e != ok {
			t.Errorf("Find(%q): %d, %v", want, c, e)
		}
	}
	for _, c := range list[api.Code](0, 27, 28, -1, -26, 255, 256, 257, 1<<32+1, math.MaxInt, math.MinInt) {
		if s, e := code.Name(c); s != "" || e != badOp {
			t.Errorf("Name(%d): %q, %v", c, s, e)
		}
	}
}

// K1: whatever is no code's text is none to find.
func TestFindOfNone(t *testing.T) {
	for _, s := range list("", " ", "Const", "CONST", "const ", " const", "const 0", "cons", "consts", "none", "count", "CodeAdd", "add\n", "add\x00", "+", "1", "and", "or") {
		if c, e := code.Find(s); c != 0 || e != badOp {
			t.Errorf("Find(%q): %d, %v", s, c, e)
		}
	}
}

// everyCode is each code with an N that it may have.
func everyCode(n int) (l []api.Instr) {
	for c := api.CodeConst; c < api.CodeCount; c++ {
		i := api.Instr{Code: c}
		if rowOf(i).n != "" {
			i.N = n
		}
		l = append(l, i)
	}
	return l
}

// K2, K3: the examples of the chapter.
func TestFormExamples(t *testing.T) {
	l := list(api.Instr{Code: api.CodeConst, N: 3}, api.Instr{Code: api.CodeAdd})
	if lines, e := code.Lines(l...); e != ok || !slices.Equal(lines, list("const 3", "add")) {
		t.Errorf("%q, %v", lines, e)
	}
	if b, e := code.Bytes(l...); e != ok || string(b) != "\x02\x01\x03\x12" {
		t.Errorf("%x, %v", b, e)
	}
	if l, f := code.Read([]byte("\x01\x12\x00")); l != nil || f != (api.Fault{Why: api.ErrMore, At: 2}) {
		t.Error(l, f)
	}
	if l, f := code.Parse("add 0"); l != nil || f != (api.Fault{Why: badOp}) {
		t.Error(l, f)
	}
}

// K2, K3, K6: each code, with each N at which something turns, alone and behind others.
func TestEveryCode(t *testing.T) {
	for _, n := range list(0, 1, 127, 128, 255, 256, 16383, 16384, greatest-1, greatest) {
		l := everyCode(n)
		holdForms(t, l)
		for _, i := range l {
			holdForms(t, list(i))
		}
	}
	holdForms(t, nil)
	if b, e := code.Bytes(); e != ok || string(b) != "\x00" {
		t.Errorf("of none: %x, %v", b, e)
	}
	if lines, e := code.Lines(); e != ok || len(lines) != 0 {
		t.Errorf("of none: %q, %v", lines, e)
	}
}

// K2, K3: an N that may not be, wherever it stands.
func TestWrongN(t *testing.T) {
	for _, i := range everyCode(0) {
		wrong := list(-1, math.MinInt, math.MinInt32, greatest+1, 1<<32, 1<<32+1, math.MaxInt)
		if rowOf(i).n == "" {
			wrong = append(wrong, 1, 128, greatest)
		}
		for _, n := range wrong {
			bad := api.Instr{Code: i.Code, N: n}
			holdForms(t, list(bad))
			holdForms(t, list(i, bad))
			holdForms(t, list(bad, i))
		}
	}
	for _, c := range list[api.Code](0, 27, -1, 256, 257, math.MaxInt, math.MinInt) {
		holdForms(t, list(api.Instr{Code: c}))
		holdForms(t, list(api.Instr{Code: api.CodeAdd}, api.Instr{Code: c}))
	}
}

// K2, K3: as many as a procedure may have, and one more, which has bytes and lines, but is not read.
func TestManyInstructions(t *testing.T) {
	for _, i := range list(api.Instr{Code: api.CodeAdd}, api.Instr{Code: api.CodeJump, N: greatest}) {
		holdForms(t, sized(api.MaxCode, i))
		holdForms(t, sized(api.MaxCode+1, i))
		b, _ := slowBytes(sized(api.MaxCode, i))
		holdRead(t, b)
		b, _ = slowBytes(sized(api.MaxCode+1, i))
		if l, f := code.Read(b); l != nil || f != (api.Fault{Why: api.ErrCount}) {
			t.Error(len(l), f)
		}
	}
}

// K2: all short bytes of those at which something turns.
func TestReadShortBytes(t *testing.T) {
	var grow func(b []byte)
	grow = func(b []byte) {
		holdRead(t, b)
		if len(b) == 5 {
			return
		}
		for _, c := range []byte{0, 1, 2, 9, 18, 26, 27, 127, 128, 255} {
			grow(append(b, c))
		}
	}
	grow(make([]byte, 0, 5))
}

// K2: what is wrong is told at its byte.
func TestReadFaults(t *testing.T) {
	for b, want := range map[string]api.Fault{
		"":             {Why: api.ErrShort},
		"\x80":         {Why: api.ErrShort},
		"\x80\x00":     {Why: api.ErrForm},
		"\x80\x80\x01": {},
		"\x81\x80\x01": {Why: api.ErrCount},
		"\xff\xff\xff\xff\xff\xff\xff\xff\xff\x01": {Why: api.ErrCount},
		"\xff\xff\xff\xff\xff\xff\xff\xff\xff\x02": {Why: api.ErrWide},
		"\x01":                         {Why: api.ErrShort, At: 1},
		"\x01\x00":                     {Why: api.ErrForm, At: 1},
		"\x01\x1b":                     {Why: api.ErrForm, At: 1},
		"\x01\xff":                     {Why: api.ErrForm, At: 1},
		"\x01\x81":                     {Why: api.ErrForm, At: 1},
		"\x02\x12\x1b":                 {Why: api.ErrForm, At: 2},
		"\x02\x01\x05":                 {Why: api.ErrShort, At: 3},
		"\x01\x01":                     {Why: api.ErrShort, At: 2},
		"\x01\x01\x80":                 {Why: api.ErrShort, At: 2},
		"\x01\x01\x80\x00":             {Why: api.ErrForm, At: 2},
		"\x01\x01\xff\xff\xff\xff\x07": {},
		"\x01\x01\x80\x80\x80\x80\x08": {Why: api.ErrCount, At: 2},
		"\x01\x01\xff\xff\xff\xff\xff\xff\xff\xff\xff\x01": {Why: api.ErrCount, At: 2},
		"\x01\x01\xff\xff\xff\xff\xff\xff\xff\xff\xff\x02": {Why: api.ErrWide, At: 2},
		"\x00\x00":             {Why: api.ErrMore, At: 1},
		"\x01\x01\x05\x12":     {Why: api.ErrMore, At: 3},
		"\x01\x12\x1b\x1b":     {Why: api.ErrMore, At: 2},
		"\x02\x1b\x01\x80\x00": {Why: api.ErrForm, At: 1},
	} {
		if want == (api.Fault{}) && b[0] == 128 {
			b += strings.Repeat("\x12", api.MaxCode)
		}
		holdRead(t, []byte(b))
		if l, f := code.Read([]byte(b)); f != want || f != (api.Fault{}) && l != nil {
			t.Errorf("Read of %x: %v, %v, not %v", b, l, f, want)
		}
	}
}

// K2: every beginning of right bytes lacks some, and none of them is more.
func TestBeginnings(t *testing.T) {
	b, _ := slowBytes(append(everyCode(300), everyCode(0)...))
	for n := range b {
		l, f := code.Read(b[:n])
		if l != nil || f.Why != api.ErrShort {
			t.Errorf("%d bytes: %v, %v", n, l, f)
		}
		holdRead(t, b[:n])
	}
	for _, more := range list("\x00", "\x01", "\x80", "more") {
		if l, f := code.Read(append(slices.Clone(b), more...)); l != nil || f != (api.Fault{Why: api.ErrMore, At: len(b)}) {
			t.Error(l, f)
		}
	}
}

// K3: lines that are none, first, last and between others.
func TestParseFaults(t *testing.T) {
	wrong := list("", " ", "\n", "plus", "0", "3", "const", "const ", " const 0", "const  0", "const 0 ", "const\t0", "const\n0", "const0", "const 0\n", "const 0 0",
		"const +0", "const +1", "const -0", "const -1", "const 00", "const 01", "const 007", "const 0x1", "const 1_0", "const 1.0", "const 1e3", "const a", "const \u0661",
		"const 2147483648", "const 4294967296", "const 4294967297", "const 9223372036854775807", "const 9223372036854775808", "const 18446744073709551617", "const -2147483648", "const "+strings.Repeat("9", 400),
		"Const 0", "CONST 0", "consts 0", "con 0", "add ", " add", "add 0", "add 1", "add  ", "add\n", "Add", "ad", "adds", "return 0", "give 0", "none", "drop 0", "jump", "unless", "call", "outer", "load", "store", "load x", "jump -1", "const,0", "const 0;add")
	for _, s := range wrong {
		for at, lines := range [][]string{list(s), list("add", s), list("const 0", "add", s), list("drop", "drop", "drop", s, "drop", "plus")} {
			if l, f := code.Parse(lines...); l != nil || f != (api.Fault{Why: badOp, At: at}) {
				t.Errorf("Parse(%q): %v, %v", lines, l, f)
			}
		}
	}
	if l, f := code.Parse(); len(l) != 0 || f != (api.Fault{}) {
		t.Error(l, f)
	}
}

// K3: lines by chance, near to right ones.
func TestParseByChance(t *testing.T) {
	r := newMaker(18, 6)
	taken := 0
	for range 30000 {
		i := pick(r, everyCode(r.IntN(1<<31)>>r.IntN(31)))
		s, _, _ := slowForm(i)
		for range r.IntN(3) {
			at := r.IntN(len(s) + 1)
			s = s[:at] + pick(r, list(" ", "0", "1", "-", "+", "e", "")) + s[min(len(s), at+r.IntN(2)):]
		}
		want, good := slowLine(s)
		l, f := code.Parse(s)
		if good && (f != (api.Fault{}) || !slices.Equal(l, list(want))) || !good && (f != (api.Fault{Why: badOp}) || l != nil) {
			t.Fatalf("Parse(%q): %v, %v", s, l, f)
		}
		if good {
			taken++
		}
	}
	if taken < 8000 || taken > 25000 {
		t.Error(taken)
	}
}
