package parse_test

import (
	"strings"
	"testing"

	"treadle/api"
	"treadle/parse"
)

// depth is a way to open levels: n of them, with what may stand inside, and where the last one opens.
type depth struct {
	what       string
	open, shut string
	opensAt    int // in open: its first level
	head, tail string
	inside     string
}

// G9, G1: as many levels as MaxNest says can be open, of each thing that opens one, and no more.
func TestLevels(t *testing.T) {
	exprs := []depth{
		{what: "brackets", open: "(", shut: ")", inside: "1"},
		{what: "calls", open: "f(", shut: ")", opensAt: 1, inside: "1"},
		{what: "calls of includes", open: "a.f(1, ", shut: ")", opensAt: 3, inside: "1"},
		{what: "minus", open: "-", inside: "1"},
		{what: "not", open: "! ", inside: "1"},
		{what: "length", open: "#", inside: "a.b"},
		{what: "brackets on the right", open: "1 - (", shut: ")", opensAt: 4, inside: "1"},
		{what: "brackets on the left", open: "(", shut: " || a)", inside: "1"},
	}
	for _, d := range exprs {
		checkDepth(t, d, 64, func(src string) api.Fault { _, f := parse.Expr(src, 9999); return f })
	}
	stmts := []depth{
		{what: "ifs", open: "if a {", shut: "}", opensAt: 5},
		{what: "elses", open: "if a {} else {", shut: "}", opensAt: 5},
		{what: "else ifs", open: "if a {} else if b {", shut: "}", opensAt: 5},
		{what: "whiles", open: "while a {", shut: "}", opensAt: 8},
	}
	for _, d := range stmts {
		d.head, d.tail = "func f() {", "}"
		checkDepth(t, d, 63, func(src string) api.Fault { _, f := parse.Module(src, 9999); return f })
	}
}

// checkDepth asks for the fault of most levels of a kind, of one more, and of many more.
func checkDepth(t *testing.T, d depth, most int, read func(src string) api.Fault) {
	t.Helper()
	src := func(n int) string { return d.head + nested(d.open, n, d.inside, d.shut) + d.tail }
	for n := range most + 1 {
		if f := read(src(n)); f != (api.Fault{}) {
			t.Errorf("%d %s: %v", n, d.what, f)
		}
	}
	at := len(d.head) + most*len(d.open) + d.opensAt
	for _, n := range []int{most + 1, most + 2, 2 * most} {
		if f := read(src(n)); f != fault(api.ErrNested, at) {
			t.Errorf("%d %s: %v, not %v", n, d.what, f, fault(api.ErrNested, at))
		}
	}
}

// G9: levels of several kinds count together.
func TestMixedLevels(t *testing.T) {
	for blocks := range 64 {
		for ahead := range 64 - blocks {
			rest := 63 - blocks - ahead
			head := "func f() {" + strings.Repeat("while a {", blocks) + "b = "
			tail := ";" + strings.Repeat("}", blocks) + "}"
			full := head + strings.Repeat("-", ahead) + nested("(", rest, "1", ")") + tail
			if _, f := parse.Module(full, 9999); f != (api.Fault{}) {
				t.Fatal(blocks, ahead, f)
			}
			at := len(head) + ahead + rest
			for _, more := range []string{"(1)", "-1", "!1", "#1"} {
				src := head + strings.Repeat("-", ahead) + nested("(", rest, more, ")") + tail
				if _, f := parse.Module(src, 9999); f != fault(api.ErrNested, at) {
					t.Fatal(blocks, ahead, more, f)
				}
			}
			src := head + strings.Repeat("-", ahead) + nested("(", rest, "a.b()", ")") + tail
			if _, f := parse.Module(src, 9999); f != fault(api.ErrNested, at+3) {
				t.Fatal(blocks, ahead, f)
			}
		}
	}
	// At the last level no call may stand, whose brackets open one more; a set may.
	full := "func f() {" + strings.Repeat("if a {", 63)
	refused(t, full+"f();", 9999, api.ErrNested, len(full)+1)
	refused(t, full+"a = 1; a.f();", 9999, api.ErrNested, len(full)+10)
	refused(t, full+"if a {", 9999, api.ErrNested, len(full)+5)
	refused(t, full+"a = 1; return b.c; print 1 + 2 * 3; var x = a < b || c; x", 9999, api.ErrSyntax, len(full)+57)
}

// G9: a level that is closed counts no more: an operator's where its operand ends.
func TestClosedLevels(t *testing.T) {
	deep := strings.Repeat("(", 63)
	for _, inside := range []string{
		"-1 - -1 - -1", "!a && !a || !a", "#a == #a", "-a.b + -c", "-1 * (1) - (1)", "f() + f() - -f", "(1) + (1)", "-1 + f(1) + -1", "a.f(1, 2) ++ f()", "-a * -b % -c", "(a) - -b", "f() - -1",
	} {
		src := deep + inside + strings.Repeat(")", 63)
		if _, f := parse.Expr(src, 9999); f != (api.Fault{}) {
			t.Errorf("%s: %v", inside, f)
		}
		checkExpr(t, src, 9999)
	}
	for inside, at := range map[string]int{"--1": 1, "-(1)": 1, "(-1)": 1, "-f()": 2, "f(-1)": 2, "f(f())": 3, "-a.b()": 4, "1 - -1 - --1": 10, "!(a)": 1, "f(1) + f((1))": 9} {
		refusedExpr(t, deep+inside+strings.Repeat(")", 63), 9999, api.ErrNested, 63+at)
	}
	row := strings.Repeat("-1 + ", 5000) + "1"
	if _, f := parse.Expr(row, 65536); f != (api.Fault{}) {
		t.Error(f)
	}
	again := strings.Repeat(nested("(", 64, "1", ")")+" + ", 100) + nested("-", 64, "1", "")
	if _, f := parse.Expr(again, 65536); f != (api.Fault{}) {
		t.Error(f)
	}
	blocks := inner(strings.Repeat(nested("while a {", 63, "", "}"), 20))
	if _, f := parse.Module(blocks+strings.Repeat(" func g(a: int) { g(1); }", 100), 65536); f != (api.Fault{}) {
		t.Error(f)
	}
}

// G9: an else if opens no level but its own block's.
func TestElseIfs(t *testing.T) {
	src := "func f() {" + strings.Repeat("while a {", 62) + strings.Repeat("if a {} else ", 300) + "if b {}" + strings.Repeat("}", 63)
	if _, f := parse.Module(src, 65536); f != (api.Fault{}) {
		t.Error(f)
	}
	check(t, "func f() {"+strings.Repeat("while a {", 62)+strings.Repeat("if a {} else ", 9)+"if b { if c {} }"+strings.Repeat("}", 63))
}
