package scan_test

import (
	"slices"
	"strings"
	"testing"

	"treadle/api"
	"treadle/scan"
)

const example = "include \"a.m\" as a; // x\ninclude \"./b\" as b; const c = 08;"

func in(path, name string, at int) api.Include {
	return api.Include{Path: path, Name: name, At: at}
}

func fault(why api.Errno, at int) api.Fault { return api.Fault{Why: why, At: at} }

// found asks for the includes of a text that has no fault, and its head.
func found(t *testing.T, text string, head int, want ...api.Include) {
	t.Helper()
	if l, f := scan.Includes(text); !slices.Equal(l, want) || f != (api.Fault{}) {
		t.Errorf("Includes(%.60q): %v, %v, not %v", text, l, f, want)
	}
	if n := scan.Head(text); n != head {
		t.Errorf("Head(%.60q): %d, not %d", text, n, head)
	}
}

// refused asks for the fault of a text, beside which there is nothing.
func refused(t *testing.T, text string, why api.Errno, at int) {
	t.Helper()
	if l, f := scan.Includes(text); len(l) != 0 || f != fault(why, at) {
		t.Errorf("Includes(%.60q): %v, %v, not %v", text, l, f, fault(why, at))
	}
	if n := scan.Head(text); n != 0 {
		t.Errorf("Head(%.60q): %d", text, n)
	}
	if s, e := scan.With(text, in("a", "a", 0)); s != "" || e != why {
		t.Errorf("With(%.60q): %q, %d", text, s, e)
	}
}

// P13.1, P13.2: the chapter's first two examples.
func TestExamples(t *testing.T) {
	found(t, example, 44, in("a.m", "a", 0), in("./b", "b", 25))
	found(t, "const", 0)
	refused(t, `include "a" b;`, api.ErrInclude, 12)
	refused(t, `include "a as b;`, api.ErrText, 8)
	refused(t, "include", api.ErrInclude, 7)
}

// P13.1, P13.2: no include, one, many.
func TestCounts(t *testing.T) {
	for _, text := range []string{"", " ", "\n\t\r", "//", "// include \"a\" as a;", "const c = 1;", "export func f() {}", "as", `"include" "a" as a;`, "Include \"a\" as a;", "includes \"a\" as a;", "include_ \"a\" as a;", "_include \"a\" as a;", "; include \"a\" as a;"} {
		found(t, text, 0)
	}
	found(t, `include "a" as b;`, 17, in("a", "b", 0))
	found(t, "  include \"a\" as b;  ", 19, in("a", "b", 2))
	const line = "include \"x\" as y;\n"
	var want []api.Include
	for i := range 3000 {
		want = append(want, in("x", "y", 18*i))
	}
	found(t, strings.Repeat(line, 3000), 18*3000-1, want...)
	found(t, strings.Repeat(line, 3000)+"@", 18*3000-1, want...)
}

// P13.1: what is told of an include: the text's value, whatever it says, and the word.
func TestValues(t *testing.T) {
	for written, value := range map[string]string{`""`: "", `"a\x0ab"`: "a\nb", `"q\"r"`: `q"r`, `"\\"`: `\`, `"\x00\xff"`: "\x00\xff", `"../../out"`: "../../out", `"/abs"`: "/abs", `"include \"a\" as a;"`: `include "a" as a;`, `"// no remark"`: "// no remark",
		`"` + strings.Repeat("p", 4096) + `"`: strings.Repeat("p", 4096), `"` + strings.Repeat(`\x2e`, 4096) + `"`: strings.Repeat(".", 4096)} {
		text := "include " + written + " as n;"
		found(t, text, len(text), in(value, "n", 0))
	}
	for _, name := range []string{"a", "_", "Z9", "includes", "As", "texts", strings.Repeat("n", 32)} {
		text := `include "" as ` + name + ";"
		found(t, text, len(text), in("", name, 0))
	}
	found(t, `include "a" as a; include "a" as a;`, 35, in("a", "a", 0), in("a", "a", 18))
}

// P13.1: each of the four tokens behind include is another one.
func TestOtherTokens(t *testing.T) {
	four := []string{`"a"`, "as", "b", ";"}
	others := map[string]string{"include": "key", "as": "as", "const": "key", "text": "key", "b": "word", "As": "word", "x": "word", "0": "number", "17": "number", `"a"`: "text", `""`: "text", `";"`: "text", `"as"`: "text",
		";": ";", ":": "sign", ",": "sign", ".": "sign", "==": "sign", "{": "sign"}
	right := []string{"text", "as", "word", ";"}
	for i := range four {
		for other, kind := range others {
			if kind == right[i] {
				continue
			}
			ahead := "include " + strings.Join(four[:i], " ") + " "
			refused(t, ahead+other+" "+strings.Join(four[i+1:], " "), api.ErrInclude, len(ahead))
			refused(t, example[:44]+ahead+other, api.ErrInclude, 44+len(ahead))
		}
	}
}

// P13.1: each of the four tokens is missing: what stands behind it is told, or the end.
func TestMissingTokens(t *testing.T) {
	refused(t, "include as b;", api.ErrInclude, 8)
	refused(t, `include "a" b;`, api.ErrInclude, 12)
	refused(t, `include "a" as ;`, api.ErrInclude, 15)
	refused(t, `include "a" as b`, api.ErrInclude, 16)
	refused(t, `include "a" as b include "c" as d;`, api.ErrInclude, 17)
	refused(t, "include;", api.ErrInclude, 7)
	refused(t, `include "a" "b" as b;`, api.ErrInclude, 12)
	refused(t, `include include "a" as b;`, api.ErrInclude, 8)
	for _, text := range []string{"include", `include "a"`, `include "a" as`, `include "a" as b`} {
		for _, gap := range []string{"", " ", " // x", "\n\n", "// \"a\" as b;"} {
			refused(t, text+gap, api.ErrInclude, len(text+gap))
			refused(t, example[:44]+text+gap, api.ErrInclude, 44+len(text+gap))
		}
	}
}

// P13.1: each of the four is no token at all: layer 12's error.
func TestNoTokens(t *testing.T) {
	long := strings.Repeat("w", 33)
	for _, ahead := range []string{"include ", `include "a" `, `include "a" as `, `include "a" as b `, example[:44] + " include "} {
		for wrong, why := range map[string]api.Errno{`"a`: api.ErrText, `"\q"`: api.ErrText, "\"\n\"": api.ErrText, `"` + strings.Repeat("a", 4097) + `"`: api.ErrText, long: api.ErrWord,
			"08": api.ErrNumber, "1a": api.ErrNumber, "9223372036854775808": api.ErrNumber, "@": api.ErrByte, "&": api.ErrByte, "\xff": api.ErrByte, "\x00": api.ErrByte, "'a'": api.ErrByte} {
			refused(t, ahead+wrong, why, len(ahead))
			refused(t, ahead+"// x\n\t"+wrong+"\n\"a\" as b;", why, len(ahead)+6)
		}
	}
	// The first wrong one is told, of whichever kind it is.
	refused(t, `include x @`, api.ErrInclude, 8)
	refused(t, `include @ x`, api.ErrByte, 8)
	refused(t, `include "a" as b: include @`, api.ErrInclude, 16)
	refused(t, `include "a" as const 08`, api.ErrInclude, 15)
}

// P13.1: behind the last include whatever is no include, a token or not, ends them.
func TestEndOfIncludes(t *testing.T) {
	for _, behind := range []string{"", " ", "const", "@", "&", `"`, `"a`, "08", "1a", strings.Repeat("w", 33), "\x00", "\xff", ";", "}", "as", "b", `"a"`, "1", "includes", "Include", "include1", "const c = 08; include x",
		"; include \"c\" as d;", "x include", "@ include", "\"\ninclude", "// include", "// include \"x", "include" + strings.Repeat("w", 26)} {
		found(t, behind, 0)
		found(t, example[:44]+behind, 44, in("a.m", "a", 0), in("./b", "b", 25))
	}
}

// P13.1: gaps stand between the tokens, or nothing where none is needed.
func TestGaps(t *testing.T) {
	found(t, `include"a"as b;include"c"as d;x`, 30, in("a", "b", 0), in("c", "d", 15))
	found(t, "// x\n\tinclude//\n\"a\"\ras\t//;\nb// ;\r\n;//", 35, in("a", "b", 6))
	found(t, "include // \"x\" as y;\n\"a\" as b;", 30, in("a", "b", 0))
	refused(t, `include"a"asb;`, api.ErrInclude, 10)
	refused(t, "include \"a\" as b // ;", api.ErrInclude, 21)
	refused(t, "include \"a\" as b /;", api.ErrInclude, 17)
	refused(t, "include \"a\x0b\" as b;", api.ErrText, 8)
	refused(t, "include\x0c\"a\" as b;", api.ErrByte, 7)
}

// P13.1: a text of MaxSource bytes is one, of one more is none.
func TestLongTexts(t *testing.T) {
	const one = `include "a" as b;`
	full := strings.Repeat(" ", 65536-len(one)) + one
	found(t, full, 65536, in("a", "b", 65536-len(one)))
	found(t, one+strings.Repeat("@", 65536-len(one)), len(one), in("a", "b", 0))
	found(t, strings.Repeat(" ", 65536), 0)
	refused(t, strings.Repeat(" ", 65529)+"include", api.ErrInclude, 65536)
	for _, long := range []string{full + " ", " " + full, full + full, strings.Repeat(" ", 65537), strings.Repeat("@", 65537), "include" + full, one + strings.Repeat("\n", 65537-len(one))} {
		refused(t, long, api.ErrLong, 0)
	}
}

// P13.2: the names, in order, whatever they are.
func TestNames(t *testing.T) {
	l, _ := scan.Includes(example)
	if names := scan.Names(l); !slices.Equal(names, []string{"a", "b"}) {
		t.Error(names)
	}
	if names := scan.Names([]api.Include{in("x", "b", 9), in("", "a", -1), in("x", "b", 0), in("", "", 0), in("", "if", 0), in("", "\xff ", 0)}); !slices.Equal(names, []string{"b", "a", "b", "", "if", "\xff "}) {
		t.Error(names)
	}
	if len(scan.Names(nil)) != 0 || len(scan.Names([]api.Include{})) != 0 {
		t.Error("names of none")
	}
}

// P13.2: Head of a text with a fault is 0, however many includes stand ahead of it.
func TestHeadOfFaults(t *testing.T) {
	for _, text := range []string{"include", `include "a" as b`, example[:44] + "include", example[:44] + "include @", example[:44] + strings.Repeat(" ", 65536)} {
		if n := scan.Head(text); n != 0 {
			t.Errorf("Head(%.60q): %d", text, n)
		}
	}
}
