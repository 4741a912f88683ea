package scan_test

import (
	"strings"
	"testing"

	"treadle/api"
	"treadle/scan"
)

// P13.4: the chapter's example, and what comes of other texts.
func TestWith(t *testing.T) {
	for _, c := range []struct {
		text string
		l    []api.Include
		want string
	}{
		{"const c = 1;", []api.Include{in(`q"r`, "z", 0)}, "include \"q\\\"r\" as z;\nconst c = 1;"},
		{"", nil, ""},
		{"", []api.Include{in("", "a", 0)}, "include \"\" as a;\n"},
		{example, nil, " const c = 08;"},
		{example, []api.Include{in("x", "y", 99), in("x", "y", -5), in("\n\t\\\x00~", "_", 0)}, "include \"x\" as y;\ninclude \"x\" as y;\ninclude \"\\n\\t\\\\\\x00~\" as _;\n const c = 08;"},
		{" // r\nx", nil, " // r\nx"},
		{" // r\nx", []api.Include{in("a", "b", 0)}, "include \"a\" as b;\n // r\nx"},
		{"// r\ninclude \"a\" as b; // s\nx", []api.Include{in("c", "d", 0)}, "include \"c\" as d;\n // s\nx"},
		{`include "a" as b;@`, nil, "@"},
		{`include "a" as b;includes`, []api.Include{in("c", "d", 0)}, "include \"c\" as d;\nincludes"},
	} {
		if s, e := scan.With(c.text, c.l...); s != c.want || e != api.OK {
			t.Errorf("With(%q, %v): %q, %d", c.text, c.l, s, e)
		}
	}
}

// P13.4: an include that may not be, wherever it stands.
func TestWithWrongIncludes(t *testing.T) {
	good := in(strings.Repeat("\xff", 4096), strings.Repeat("n", 32), 0)
	if s, e := scan.With("", good); e != api.OK || len(s) != 8+2+4*4096+4+32+2 {
		t.Error(len(s), e)
	}
	var wrong []api.Include
	for _, name := range []string{"", "if", "include", "as", "text", "true", "0", "1a", "a b", " a", "a ", "a;", "a-b", "é", "\"a\"", ";", "a//", strings.Repeat("n", 33), strings.Repeat("n", 70000)} {
		wrong = append(wrong, in("a", name, 0))
	}
	for _, n := range []int{4097, 4098, 70000} {
		wrong = append(wrong, in(strings.Repeat("p", n), "a", 0))
	}
	for _, bad := range wrong {
		for _, l := range [][]api.Include{{bad}, {good, bad}, {bad, good}, {in("a", "a", 0), bad, in("b", "b", 0)}} {
			if s, e := scan.With("const c = 1;", l...); s != "" || e != api.ErrArg {
				t.Errorf("With(.., %.60q as %.60q): %.60q, %d", bad.Path, bad.Name, s, e)
			}
		}
	}
}

// P13.4: what comes has at most MaxSource bytes.
func TestWithTooLong(t *testing.T) {
	const line = "include \"a\" as b;\n"
	rest := strings.Repeat(" ", 65536-len(line))
	if s, e := scan.With(rest, in("a", "b", 0)); s != line+rest || e != api.OK {
		t.Error(len(s), e)
	}
	// Quoted, a byte may be four, or two.
	for path, size := range map[string]int{"aa": 2, "\xff": 4, "\n": 2, strings.Repeat("\x00", 4096): 4 * 4096} {
		room := strings.Repeat("x", 65536-len(line)+1-size)
		if s, e := scan.With(room, in(path, "b", 0)); len(s) != 65536 || e != api.OK {
			t.Error(len(s), e)
		}
		if s, e := scan.With(room+"x", in(path, "b", 0)); s != "" || e != api.ErrLong {
			t.Error(len(s), e)
		}
	}
	if s, e := scan.With(rest+" ", in("a", "b", 0)); s != "" || e != api.ErrLong {
		t.Error(len(s), e)
	}
	// The text's own includes make room.
	own := line[:len(line)-1] + rest
	if s, e := scan.With(own+"\n", in("a", "b", 0)); s != "" || e != api.ErrLong {
		t.Error(len(s), e)
	}
	if s, e := scan.With(own, in("c", "d", 0)); s != "include \"c\" as d;\n"+rest || e != api.OK {
		t.Error(len(s), e)
	}
	// By the includes alone.
	many := make([]api.Include, 65536/len(line)+1)
	for i := range many {
		many[i] = in("a", "b", 0)
	}
	if s, e := scan.With("", many[1:]...); s != strings.Repeat(line, len(many)-1) || e != api.OK {
		t.Error(len(s), e)
	}
	if s, e := scan.With("", many...); s != "" || e != api.ErrLong {
		t.Error(len(s), e)
	}
	many[1].Path += strings.Repeat("a", 65536%len(line))
	if s, e := scan.With("", many[1:]...); len(s) != 65536 || e != api.OK {
		t.Error(len(s), e)
	}
	if s, e := scan.With("x", many[1:]...); s != "" || e != api.ErrLong {
		t.Error(len(s), e)
	}
	many[1].Path += "a"
	if s, e := scan.With("", many[1:]...); s != "" || e != api.ErrLong {
		t.Error(len(s), e)
	}
}

// R2: the text's fault is told ahead of a wrong include, that ahead of what is too long.
func TestWithFirstError(t *testing.T) {
	long := strings.Repeat(" ", 65536)
	bad, good := in("a", "if", 0), in("a", "b", 0)
	for _, c := range []struct {
		text string
		l    []api.Include
		want api.Errno
	}{
		{"include", []api.Include{bad}, api.ErrInclude}, {"include", nil, api.ErrInclude}, {"include @", []api.Include{bad}, api.ErrByte}, {`include "`, []api.Include{good}, api.ErrText}, {`include "a" as 08`, nil, api.ErrNumber}, {`include "a" as ` + strings.Repeat("n", 33), nil, api.ErrWord},
		{long + " ", nil, api.ErrLong}, {long + " ", []api.Include{bad}, api.ErrLong}, {long[7:] + "include", []api.Include{bad}, api.ErrInclude}, {long[7:] + "include", []api.Include{good}, api.ErrInclude},
		{long, []api.Include{bad}, api.ErrArg}, {long, []api.Include{good, bad}, api.ErrArg}, {long, []api.Include{good}, api.ErrLong}, {long, nil, api.OK},
	} {
		s, e := scan.With(c.text, c.l...)
		if e != c.want || e != api.OK && s != "" {
			t.Errorf("With(%.20q, %v): %.20q, %d, not %d", c.text, c.l, s, e, c.want)
		}
	}
	// So it is where those ahead are too long already.
	l := make([]api.Include, 5000)
	for i := range l {
		l[i] = good
	}
	if s, e := scan.With("", append(l, bad)...); s != "" || e != api.ErrArg {
		t.Error(len(s), e)
	}
}
