package deps_test

import (
	"crypto/sha256"
	"fmt"
	"math"
	"slices"
	"strings"
	"testing"

	"treadle/api"
	"treadle/deps"
	"treadle/scan"
	"treadle/view"
)

// three are the modules of the chapter's first example.
func three() []api.Entry {
	return []api.Entry{f("a.m", `include "b.m" as b; include "c.m" as c;`), f("b.m", `include "./c.m" as x;`), f("c.m", "")}
}

// E1: the chapter's examples.
func TestExamples(t *testing.T) {
	holdClose(t, "c.m; b.m: c.m; a.m: b.m c.m", "a.m", 9, three()...)
	holdClose(t, "{b.m 161 0}; {a.m 161 20}", "a.m", 2, three()...)
	holdClose(t, "{a.m 160 0}", "a.m", 9, f("a.m", `include "a.m" as a;`))
	holdClose(t, "{a.m 100 0}", "a.m", 9, f("a.m", `include "x" as x;`))
	holdClose(t, "{x 100 0}", "x", 9, f("a.m", `include "x" as x;`))
}

// E1: of a view that New did not give, whatever else is asked for.
func TestNoView(t *testing.T) {
	for _, v := range []*view.View{nil, {}} {
		for _, start := range []string{"a.m", "", "x", "a//b", "\xff"} {
			for _, most := range []int{1, 9, 0, -1, math.MinInt, math.MaxInt} {
				if l, told := deps.Close(v, start, most); len(l) != 0 || !slices.Equal(told, []api.Diag{{Path: start, Why: api.ErrNil}}) {
					t.Errorf("Close(%v, %q, %d): %s", v, start, most, shown(l, told))
				}
			}
		}
	}
}

// E1: of too few modules, whatever the start; and nothing is learnt then.
func TestMostBelowOne(t *testing.T) {
	for _, most := range []int{0, -1, -9, math.MinInt} {
		for _, start := range []string{"a.m", "b.m", "", "x", "a//b", "\xff"} {
			holdClose(t, fmt.Sprintf("{%s 1 0}", start), start, most, three()...)
			v := newView(t, three()...)
			if deps.Close(v, start, most); len(v.Seen()) > 0 {
				t.Errorf("Close(%q, %d): %v was learnt", start, most, v.Seen())
			}
		}
	}
}

// E1: as many modules as there may be are enough, one fewer is too few.
func TestMost(t *testing.T) {
	for _, most := range []int{3, 4, 64, math.MaxInt} {
		holdClose(t, "c.m; b.m: c.m; a.m: b.m c.m", "a.m", most, three()...)
	}
	holdClose(t, "{a.m 161 0}; {a.m 161 20}", "a.m", 1, three()...)
	holdClose(t, "c.m", "c.m", 1, three()...)
	holdClose(t, "{b.m 161 0}", "b.m", 1, three()...)
	holdClose(t, "c.m; b.m: c.m", "b.m", 2, three()...)
	// What was visited is no further module, and a fault of its own leaves it counted.
	holdClose(t, "b.m; a.m: b.m b.m b.m", "a.m", 2, f("a.m", inc("b.m", "./b.m", "b.m")), f("b.m", ""))
	holdClose(t, "{b.m 130 7}; {a.m 161 21}", "a.m", 2, f("a.m", inc("b.m", "c.m", "b.m")), f("b.m", "include"), f("c.m", ""))
	// More than MaxModules, if so many are asked for.
	var chain []api.Entry
	for i := range 100 {
		chain = append(chain, f(fmt.Sprintf("m%02d", i), inc(fmt.Sprintf("m%02d", i+1))))
	}
	chain = append(chain, f("m100", ""))
	for n := 1; n <= 102; n++ {
		v := newView(t, chain...)
		l, told := deps.Close(v, "m00", n)
		last := api.Diag{Path: fmt.Sprintf("m%02d", n-1), Why: api.ErrModules}
		if n < 101 && (len(l) != 0 || !slices.Equal(told, []api.Diag{last})) || n >= 101 && (len(l) != 101 || len(told) != 0) {
			t.Errorf("Close(m00, %d): %d units, %v", n, len(l), told)
		}
	}
}

// E1, R1: as many modules within one another as a view can have, and as many includes as a module can.
func TestBigClosures(t *testing.T) {
	name := func(i int) string { return fmt.Sprintf("m%04d", i) }
	var entries []api.Entry
	for i := range api.MaxEntries {
		entries = append(entries, f(name(i), inc(name(i+1))))
	}
	v := newView(t, entries...)
	for i := range api.MaxEntries {
		text := inc(name(api.MaxEntries + i + 1))
		if i == api.MaxEntries-1 {
			text = ""
		}
		if e := v.Write(name(api.MaxEntries+i), text); e != api.OK {
			t.Fatal(e)
		}
	}
	l, told := deps.Close(v, name(0), math.MaxInt)
	if len(l) != 2*api.MaxEntries || len(told) != 0 || !deps.Right(l) || len(deps.Users(l, name(2*api.MaxEntries-1))) != len(l)-1 {
		t.Error(len(l), told)
	}
	const many = api.MaxSource / 21
	entries = []api.Entry{f("a.m", inc(slices.Repeat([]string{"b.m"}, many)...)), f("b.m", "")}
	if l, told := deps.Close(newView(t, entries...), "a.m", 2); len(l) != 2 || len(l[1].Needs) != many || len(told) != 0 || !deps.Right(l) {
		t.Error(len(l), told)
	}
	if l, told := deps.Close(newView(t, entries...), "a.m", 1); len(l) != 0 || len(told) != many || told[many-1] != (api.Diag{Path: "a.m", Why: api.ErrModules, At: 21 * (many - 1)}) {
		t.Error(len(l), len(told))
	}
}

// E1: a start that leads to no module is told by its own path.
func TestStart(t *testing.T) {
	entries := []api.Entry{f("a.m", ""), f("lib/a.m", inc("./b.m")), f("lib/b.m", ""), l("l", "lib/a.m"), l("k", "lib"), l("r", "."), l("out", "../a.m"), l("abs", "/a.m"), l("bad", "a m"), l("self", "self"), l("lost", "none"), l("deep", strings.Repeat("d/", 33))}
	for start, why := range map[string]api.Errno{
		"": api.ErrRoot, "a//b": api.ErrPath, "/a.m": api.ErrPath, "a.m/": api.ErrPath, ".": api.ErrPath, "./a.m": api.ErrPath, "..": api.ErrPath, "a m": api.ErrPath, "\x00": api.ErrPath, strings.Repeat("n", 65): api.ErrPath, strings.Repeat("d/", 32) + "f": api.ErrPath, strings.Repeat("a", 70000): api.ErrPath,
		"x": api.ErrMissing, "lib/x": api.ErrMissing, "lost": api.ErrMissing, "k/x": api.ErrMissing, "x/a.m": api.ErrMissing, "a.m/x": api.ErrFile, "l/x": api.ErrFile, "out": api.ErrEscape, "abs": api.ErrAbsolute, "bad": api.ErrName, "self": api.ErrHops, "deep": api.ErrDeep,
		"lib": api.ErrDir, "k": api.ErrDir, "r": api.ErrDir, "r/k": api.ErrDir,
	} {
		holdClose(t, shownDiag(start, why, 0), start, 9, entries...)
	}
	// Where it leads counts, and not how it is named.
	holdClose(t, "a.m", "a.m", 9, entries...)
	for _, start := range []string{"lib/a.m", "l", "k/a.m", "r/l", "r/k/a.m", "r/r/lib/a.m"} {
		holdClose(t, "lib/b.m; lib/a.m: lib/b.m", start, 9, entries...)
		holdClose(t, "{lib/a.m 161 0}", start, 1, entries...)
	}
}

// E1: modules in the order in which their visits end, each once.
func TestOrder(t *testing.T) {
	for _, x := range []struct {
		want    string
		entries []api.Entry
	}{
		{"a.m", []api.Entry{f("a.m", ""), f("b.m", "")}},
		{"a.m", []api.Entry{f("a.m", `const c = ; include "b.m" as b;`)}},
		{"a.m", []api.Entry{f("a.m", `@ include "b.m" as b;`)}},
		{"b.m; c.m; a.m: b.m c.m", []api.Entry{f("a.m", inc("b.m", "c.m")), f("b.m", ""), f("c.m", "")}},
		{"c.m; b.m; a.m: c.m b.m", []api.Entry{f("a.m", inc("c.m", "b.m")), f("b.m", ""), f("c.m", "")}},
		// One that several others need comes once, ahead of the first that needs it.
		{"d.m; b.m: d.m; c.m: d.m; a.m: b.m c.m", []api.Entry{f("a.m", inc("b.m", "c.m")), f("b.m", inc("d.m")), f("c.m", inc("d.m")), f("d.m", "")}},
		{"d.m; b.m: d.m; c.m: d.m b.m; a.m: b.m c.m d.m", []api.Entry{f("a.m", inc("b.m", "c.m", "d.m")), f("b.m", inc("d.m")), f("c.m", inc("d.m", "b.m")), f("d.m", "")}},
		{"d.m; c.m: d.m; b.m: c.m; a.m: d.m b.m", []api.Entry{f("a.m", inc("d.m", "b.m")), f("b.m", inc("c.m")), f("c.m", inc("d.m")), f("d.m", "")}},
		// One include twice, under one name or two.
		{"b.m; a.m: b.m b.m", []api.Entry{f("a.m", `include "b.m" as b; include "b.m" as b;`), f("b.m", "")}},
		{"b.m; a.m: b.m b.m", []api.Entry{f("a.m", `include "b.m" as b; include "b.m" as c;`), f("b.m", "")}},
		// Names that resolve to one path.
		{"lib/b.m; a.m: lib/b.m lib/b.m lib/b.m lib/b.m lib/b.m lib/b.m", []api.Entry{f("a.m", inc("lib/b.m", "./lib/b.m", "lib/../lib//b.m", "to/b.m", "one", "./one")), f("lib/b.m", ""), l("to", "lib"), l("one", "to/b.m")}},
		// A module's directory is the one in which it stands, however it was named.
		{"lib/c.m; lib/b.m: lib/c.m; a.m: lib/b.m", []api.Entry{f("a.m", inc("one")), f("lib/b.m", inc("./c.m")), f("lib/c.m", ""), f("c.m", ""), l("one", "lib/b.m")}},
		{"lib/c.m; lib/in/b.m: lib/c.m; a.m: lib/in/b.m", []api.Entry{f("a.m", inc("to/b.m")), f("lib/in/b.m", inc("../c.m")), f("lib/c.m", ""), f("c.m", ""), l("to", "lib/in")}},
		{"c.m; lib/b.m: c.m; a.m: lib/b.m", []api.Entry{f("a.m", inc("lib/b.m")), f("lib/b.m", inc("c.m")), f("lib/c.m", ""), f("c.m", "")}},
	} {
		holdClose(t, x.want, "a.m", 9, x.entries...)
	}
}

// E1: what each unit has.
func TestUnits(t *testing.T) {
	texts := map[string]string{"a.m": " // a\n" + inc("lib/b.m", "c.m") + "const x = 1;", "lib/b.m": "include\"./d.m\"as d;include \"c.m\" as c ; @", "lib/d.m": "", "c.m": "\xff\x00"}
	var entries []api.Entry
	for p, s := range texts {
		entries = append(entries, f(p, s))
	}
	all := units(t, "a.m", entries...)
	if got := shown(all, nil); got != "lib/d.m; c.m; lib/b.m: lib/d.m c.m; a.m: lib/b.m c.m" {
		t.Fatal(got)
	}
	wholes := map[string]api.Digest{}
	for _, u := range all {
		var needs []api.Digest
		for _, need := range u.Needs {
			needs = append(needs, wholes[need])
		}
		wholes[u.Path] = u.Whole
		includes, _ := scan.Includes(u.Text)
		if u.Text != texts[u.Path] || !slices.Equal(u.Includes, includes) || u.Digest != sha256.Sum256([]byte(u.Text)) || u.Whole != slowWhole(u.Digest, needs...) {
			t.Errorf("%+v", u)
		}
	}
	if x := all[3].Includes; !slices.Equal(x, []api.Include{{Path: "lib/b.m", Name: "n0", At: 6}, {Path: "c.m", Name: "n1", At: 31}}) {
		t.Error(x)
	}
}

// E1: a fault of the includes is told by where the module stands, and the module has no includes then: what stands ahead of the fault isn't visited.
func TestFaultsOfIncludes(t *testing.T) {
	for text, want := range map[string]string{
		"include": "130 7", "include x": "130 8", " include \"b.m\" b;": "130 15", "include @": "120 8", "include \"b.m": "122 8", "include \"b.m\" as 08;": "121 17", "include \"b.m\" as " + strings.Repeat("w", 33): "123 17", `include "b.m" as b; include "x" as x; include`: "130 45", `include "a.m" as b; include "x" as x`: "130 36",
	} {
		entries := []api.Entry{f("lib/a.m", text), f("b.m", "include"), f("c.m", inc("lib/a.m", "d.m", "lib/a.m")), f("d.m", inc("lib/a.m")), l("l", "lib/a.m")}
		holdClose(t, "{lib/a.m "+want+"}", "lib/a.m", 1, entries...)
		holdClose(t, "{lib/a.m "+want+"}", "l", 9, entries...)
		// It is a module that was visited, and can be needed.
		holdClose(t, "{lib/a.m "+want+"}", "d.m", 9, entries...)
		holdClose(t, "{lib/a.m "+want+"}", "c.m", 9, entries...)
		holdClose(t, "{lib/a.m "+want+"}; {c.m 161 25}", "c.m", 2, entries...)
	}
}

// wrongs are written paths that lead from lib/in to no module, of the tree around.
func wrongs() map[string]api.Errno {
	return map[string]api.Errno{
		"/b.m": api.ErrAbsolute, "b m": api.ErrName, "\x00": api.ErrName, strings.Repeat("n", 65): api.ErrName, "../../../b.m": api.ErrEscape, "b/../../b.m": api.ErrEscape, strings.Repeat("d/", 33): api.ErrDeep, "./" + strings.Repeat("d/", 31): api.ErrDeep,
		"": api.ErrRoot, "x/..": api.ErrRoot, "../..": api.ErrRoot, "./../..": api.ErrRoot,
		"none": api.ErrMissing, "./b.m": api.ErrMissing, "lib/none/b.m": api.ErrMissing, "lost": api.ErrMissing, "b.m/x": api.ErrFile, "to-b/x": api.ErrFile, "self": api.ErrHops, "out": api.ErrEscape, "abs": api.ErrAbsolute, "bad": api.ErrName, "deep/" + strings.Repeat("d/", 30) + "d": api.ErrDeep,
		"lib": api.ErrDir, ".": api.ErrDir, "..": api.ErrDir, "top": api.ErrDir, "lib/in/": api.ErrDir, "lib/in/a.m": api.ErrCycle, "./a.m": api.ErrCycle, "to-a": api.ErrCycle,
	}
}

func around(text string) []api.Entry {
	return []api.Entry{f("lib/in/a.m", text), f("b.m", ""), f("c.m", ""), l("to-a", "lib/in/a.m"), l("to-b", "b.m"), l("self", "self"), l("out", "../b.m"), l("abs", "/b.m"), l("bad", "b m"), l("lost", "none"), l("top", "."), l("deep", "lib/in")}
}

// E1: an include that is wrong, in each way, alone and beside others, is told at its place and passed over.
func TestWrongIncludes(t *testing.T) {
	for written, why := range wrongs() {
		holdClose(t, shownDiag("lib/in/a.m", why, 0), "lib/in/a.m", 9, around(inc(written))...)
		// Whether there is room for more modules or not.
		holdClose(t, shownDiag("lib/in/a.m", why, 0), "lib/in/a.m", 1, around(inc(written))...)
		text := "// x\n" + inc("b.m", written, "c.m") + inc(written)
		first, last := strings.Index(text, "include "+quoted(written)), strings.LastIndex(text, "include "+quoted(written))
		want := shownDiag("lib/in/a.m", why, first) + "; " + shownDiag("lib/in/a.m", why, last)
		holdClose(t, want, "to-a", 9, around(text)...)
		// One behind it that is not to be visited any more.
		want = shownDiag("lib/in/a.m", why, first) + "; " + shownDiag("lib/in/a.m", api.ErrModules, strings.Index(text, `include "c.m"`)) + "; " + shownDiag("lib/in/a.m", why, last)
		holdClose(t, want, "to-a", 2, around(text)...)
	}
	// Any two beside one another: each is told, in order.
	for one, why := range wrongs() {
		for other, because := range wrongs() {
			text := inc(one, other)
			holdClose(t, shownDiag("lib/in/a.m", why, 0)+"; "+shownDiag("lib/in/a.m", because, len(inc(one))), "lib/in/a.m", 9, around(text)...)
		}
	}
}

func quoted(s string) string { return fmt.Sprintf("%q", s) }

// E1: what is wrong is told in the order in which it is met: that of a module stands where its visit is.
func TestOrderOfFaults(t *testing.T) {
	entries := []api.Entry{
		f("a.m", inc("x1", "b.m", "x2", "c.m", "x3")),
		f("b.m", inc("x4", "c.m", "a.m", "x5")),
		f("c.m", inc("b.m", "d.m", "x6")),
		f("d.m", "include @"),
	}
	holdClose(t, "{a.m 100 0}; {b.m 100 0}; {c.m 160 0}; {d.m 120 8}; {c.m 100 42}; {b.m 160 41}; {b.m 100 62}; {a.m 100 41}; {a.m 100 82}", "a.m", 9, entries...)
	holdClose(t, "{a.m 100 0}; {b.m 100 0}; {c.m 160 0}; {c.m 161 21}; {c.m 100 42}; {b.m 160 41}; {b.m 100 62}; {a.m 100 41}; {a.m 100 82}", "a.m", 3, entries...)
	holdClose(t, "{a.m 100 0}; {b.m 100 0}; {b.m 161 20}; {b.m 160 41}; {b.m 100 62}; {a.m 100 41}; {a.m 161 61}; {a.m 100 82}", "a.m", 2, entries...)
	holdClose(t, "{a.m 100 0}; {a.m 161 20}; {a.m 100 41}; {a.m 161 61}; {a.m 100 82}", "a.m", 1, entries...)
}

// E1, E6: rings of one, of two and of more, with the start on them and behind, under other names, and beside faults.
func TestRings(t *testing.T) {
	for _, x := range []struct {
		want    string
		entries []api.Entry
	}{
		{"{a.m 160 0}", []api.Entry{f("a.m", inc("./a.m"))}},
		{"{a.m 160 0}; {a.m 160 21}", []api.Entry{f("a.m", inc("a.m", "a.m"))}},
		{"{a.m 160 0}", []api.Entry{f("a.m", inc("l")), l("l", "a.m")}},
		{"{b.m 160 0}", []api.Entry{f("a.m", inc("b.m")), f("b.m", inc("a.m"))}},
		{"{b.m 160 0}", []api.Entry{f("a.m", inc("b.m")), f("b.m", inc("b.m"))}},
		{"{c.m 160 0}", []api.Entry{f("a.m", inc("b.m")), f("b.m", inc("c.m")), f("c.m", inc("a.m"))}},
		{"{c.m 160 0}", []api.Entry{f("a.m", inc("b.m")), f("b.m", inc("c.m")), f("c.m", inc("b.m"))}},
		{"{d.m 160 0}; {c.m 160 21}", []api.Entry{f("a.m", inc("b.m")), f("b.m", inc("c.m")), f("c.m", inc("d.m", "c.m")), f("d.m", inc("a.m"))}},
		// A ring that was told once is none for who comes from elsewhere: its modules' visits have ended.
		{"{c.m 160 0}", []api.Entry{f("a.m", inc("b.m", "c.m", "b.m")), f("b.m", inc("c.m")), f("c.m", inc("b.m"))}},
		{"{b.m 100 0}; {b.m 160 20}", []api.Entry{f("a.m", inc("b.m", "d.m")), f("b.m", inc("xx", "a.m")), f("d.m", "")}},
		// A fault ends a module's includes, and so its ring.
		{"{a.m 130 49}", []api.Entry{f("a.m", inc("b.m", "d.m")+"include"), f("b.m", inc("a.m")), f("d.m", "")}},
		{"{b.m 160 0}; {d.m 130 7}", []api.Entry{f("a.m", inc("b.m", "d.m")), f("b.m", inc("a.m")), f("d.m", "include")}},
		{"{d.m 130 7}; {b.m 160 21}", []api.Entry{f("a.m", inc("b.m")), f("b.m", inc("d.m", "a.m")), f("d.m", "include")}},
	} {
		holdClose(t, x.want, "a.m", 9, x.entries...)
	}
	// A ring is told though there is no room for more modules.
	holdClose(t, "{a.m 160 0}", "a.m", 1, f("a.m", inc("a.m")))
	holdClose(t, "{b.m 160 0}", "a.m", 2, f("a.m", inc("b.m")), f("b.m", inc("a.m")))
	holdClose(t, "{b.m 161 0}", "a.m", 2, f("a.m", inc("b.m")), f("b.m", inc("c.m")), f("c.m", inc("a.m")))
}

// E1: what was written over the tree counts, and what was removed is gone.
func TestOverlay(t *testing.T) {
	v := newView(t, append(three(), l("l", "a.m"))...)
	for _, e := range []api.Errno{v.Write("b.m", inc("new/d.m")), v.Make("new"), v.Write("new/d.m", "// d"), v.Remove("c.m")} {
		if e != api.OK {
			t.Fatal(e)
		}
	}
	if got := shown(deps.Close(v, "l", 9)); got != "{a.m 100 20}" {
		t.Error(got)
	}
	v.Write("c.m", "const c = 1;")
	l, told := deps.Close(v, "l", 9)
	if got := shown(l, told); got != "new/d.m; b.m: new/d.m; c.m; a.m: b.m c.m" || l[0].Text != "// d" || l[2].Text != "const c = 1;" {
		t.Error(got, l)
	}
	if got := shown(deps.Close(v, "new", 9)); got != "{new 101 0}" {
		t.Error(got)
	}
}

// Words: what a closure asks of the tree: modules that are visited are read, and no others.
func TestWhatIsLearnt(t *testing.T) {
	entries := []api.Entry{f("a.m", inc("to/b.m", "none", "b.m/x", "lib", "", "c.m")), f("b.m", ""), f("c.m", inc("b.m")), f("d.m", ""), f("lib/b.m", "// b"), l("to", "lib")}
	seen := func(start string, most int) string {
		v := newView(t, entries...)
		deps.Close(v, start, most)
		s := ""
		for _, x := range v.Seen() {
			s += fmt.Sprintf("%s %d, ", x.Path, x.What)
			if x.What == api.SeenDir && x.Digest != (api.Digest{}) {
				t.Error("listed:", x.Path)
			}
		}
		return s
	}
	for _, x := range []struct {
		start string
		most  int
		want  string
	}{
		{"a.m", 9, "a.m 1, b.m 1, c.m 1, lib 2, lib/b.m 1, none 0, to 3, "},
		{"a.m", 3, "a.m 1, b.m 4, c.m 1, lib 2, lib/b.m 1, none 0, to 3, "},
		{"a.m", 2, "a.m 1, b.m 4, c.m 4, lib 2, lib/b.m 1, none 0, to 3, "},
		{"a.m", 1, "a.m 1, b.m 4, c.m 4, lib 2, lib/b.m 4, none 0, to 3, "},
		{"to/b.m", 9, "lib 2, lib/b.m 1, to 3, "}, {"lib", 9, "lib 2, "}, {"none", 9, "none 0, "}, {"d.m/x", 9, "d.m 4, "}, {"", 9, ""}, {"a//b", 9, ""},
	} {
		if got := seen(x.start, x.most); got != x.want {
			t.Errorf("Close(%q, %d): %s, not %s", x.start, x.most, got, x.want)
		}
	}
}

// E1 at trees of any kind.
func TestRandomClosures(t *testing.T) {
	for _, wild := range []bool{false, true} {
		r := newMaker(1, wild)
		met := map[api.Errno]int{}
		for range 6000 {
			entries := grown(t, r.entries()...)
			start := one(r.Rand, modulePaths...)
			if wild && r.IntN(4) == 0 {
				start = one(r.Rand, append(written, wrongWritten...)...)
			}
			most := one(r.Rand, 9, 9, 9, 4, 3, 2, 1, 0)
			v := newView(t, entries...)
			holdSlow(t, v, newView(t, entries...), start, most)
			l, told := deps.Close(v, start, most)
			if len(l) > 2 {
				met[api.OK]++
			}
			for _, x := range told {
				met[x.Why]++
			}
			if t.Failed() {
				t.Fatalf("of %v", entries)
			}
		}
		want := []api.Errno{api.OK, api.ErrArg, api.ErrCycle, api.ErrModules}
		if wild {
			want = append(want, api.ErrPath, api.ErrRoot, api.ErrMissing, api.ErrDir, api.ErrFile, api.ErrHops, api.ErrEscape, api.ErrAbsolute, api.ErrName, api.ErrDeep, api.ErrInclude, api.ErrByte)
		}
		for _, why := range want {
			if met[why] < 40 {
				t.Errorf("%d was met %d times", why, met[why])
			}
		}
	}
}
