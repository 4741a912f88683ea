package path_test

import (
	"slices"
	"strings"
	"testing"

	"treadle/api"
	"treadle/path"
)

func mustCompare(t *testing.T, a, b string) int {
	t.Helper()
	c, e := path.Compare(a, b)
	if e != api.OK {
		t.Fatalf("Compare(%q, %q): %d", a, b, e)
	}
	return c
}

func slowAbove(a, b string) bool {
	l, _ := slowNames(a)
	m, _ := slowNames(b)
	return len(l) < len(m) && slices.Equal(l, m[:len(l)])
}

// rising are paths in the order that the chapter tells.
func rising() []string {
	return []string{
		"", "-", "-/a", "...", "0", "A", "A/z", "Z", "_", "a", "a/-", "a/A", "a/b", "a/b/a", "a/b/b", "a/b-", "a/b.c", "a/bc", "a/c",
		"a-", "a-/a", "a-b", "a.", "a.b", "a0", "aA", "a_", "aa", "aa/a", "ab", "b", "z",
	}
}

// A4: whether a path is above another one.
func TestAbove(t *testing.T) {
	for _, c := range []struct {
		a, b string
		want bool
	}{
		{"", "", false}, {"", "a", true}, {"", "a/b", true}, {"a", "", false},
		{"a", "a", false}, {"a", "a/b", true}, {"a", "a/b/c", true}, {"a/b", "a", false},
		{"a", "ab", false}, {"a", "ab/c", false}, {"a", "a-b/c", false}, {"a/b", "a/c", false},
		{"b", "a/b", false}, {"a/b", "a/b/c", true}, {deep(31), deep(32), true}, {"A", "a/b", false},
	} {
		if got, e := path.Above(c.a, c.b); got != c.want || e != api.OK {
			t.Errorf("Above(%q, %q): %v, %d", c.a, c.b, got, e)
		}
	}
}

// A4: all of a row of paths against one another.
func TestCompareRising(t *testing.T) {
	l := rising()
	for i, a := range l {
		for j, b := range l {
			want := 0
			if i < j {
				want = -1
			} else if i > j {
				want = 1
			}
			if c := mustCompare(t, a, b); c != want {
				t.Errorf("Compare(%q, %q): %d", a, b, c)
			}
		}
	}
}

// A4: the chapter's example, and a name that is another one's beginning.
func TestCompareBeginnings(t *testing.T) {
	for _, c := range []struct {
		a, b string
		want int
	}{
		{"a-b", "a/b", 1}, {"a/b", "a-b", -1}, {"a", "a/b", -1}, {"a", "a-b", -1}, {"a/b", "a", 1},
		{"", "a", -1}, {"a", "", 1}, {"", "", 0}, {"a/b", "a/b", 0}, {deep(31), deep(32), -1},
		{"a/z", "ab", -1}, {"a/z/z", "a-/-", -1}, {"a.b/c", "a/z", 1}, {"Z", "a", -1},
	} {
		if got := mustCompare(t, c.a, c.b); got != c.want {
			t.Errorf("Compare(%q, %q): %d", c.a, c.b, got)
		}
	}
}

// A9: an order of all paths: of one kind with itself turned round, and without rings.
func TestCompareIsAnOrder(t *testing.T) {
	r := source()
	for range 20000 {
		a, b, c := somePath(r), somePath(r), somePath(r)
		ab, ba := mustCompare(t, a, b), mustCompare(t, b, a)
		if ab != -ba || (ab == 0) != (a == b) {
			t.Errorf("Compare(%q, %q): %d and %d", a, b, ab, ba)
		}
		if ab <= 0 && mustCompare(t, b, c) <= 0 && mustCompare(t, a, c) > 0 {
			t.Errorf("%q, %q, %q", a, b, c)
		}
		l, _ := slowNames(a)
		m, _ := slowNames(b)
		if want := slices.Compare(l, m); ab != want {
			t.Errorf("Compare(%q, %q): %d, not %d", a, b, ab, want)
		}
	}
}

// A4, A9: what stands between a directory and something below it is below the directory.
func TestCompareKeepsTogether(t *testing.T) {
	r := source()
	met := 0
	for range 200000 {
		dir, below, other := somePath(r), somePath(r), somePath(r)
		if up, _ := path.Above(dir, below); !up {
			continue
		}
		if mustCompare(t, dir, below) != -1 {
			t.Fatalf("%q is not ahead of %q", dir, below)
		}
		if mustCompare(t, dir, other) != -1 || mustCompare(t, other, below) != -1 {
			continue
		}
		met++
		if up, _ := path.Above(dir, other); !up {
			t.Fatalf("%q stands between %q and %q", other, dir, below)
		}
	}
	if met < 1000 {
		t.Errorf("met only %d", met)
	}
}

// A5: the written path from a path to another one.
func TestRel(t *testing.T) {
	for _, c := range [][3]string{
		{"a/b/c", "a/d", "../../d"}, {"", "a", "a"}, {"a", "a", "."}, {"", "", "."}, {"a/b", "a/b", "."},
		{"a/b", "", "../.."}, {"a", "", ".."}, {"a", "a/b/c", "b/c"}, {"a/b", "a/bc", "../bc"}, {"a/b", "c/d/e", "../../c/d/e"},
		{"a/b", "b/a", "../../b/a"}, {"a", "A", "../A"}, {deep(32), deep(1), strings.Repeat("../", 30) + ".."}, {deep(1), deep(32), deep(31)},
	} {
		if got, e := path.Rel(c[0], c[1]); got != c[2] || e != api.OK {
			t.Errorf("Rel(%q, %q): %q, %d", c[0], c[1], got, e)
		}
	}
}

// A8: what Rel answers leads from the one to the other.
func TestRelLeadsThere(t *testing.T) {
	r := source()
	for range 10000 {
		from, to := somePath(r), somePath(r)
		rel, e := path.Rel(from, to)
		if e != api.OK {
			t.Fatal(e)
		}
		if got, e := path.Join(from, rel); got != to || e != api.OK {
			t.Errorf("Join(%q, %q): %q, %d, not %q", from, rel, got, e, to)
		}
	}
	wide := func(name string) string { return strings.Join(row(32, strings.Repeat(name, 64)), "/") }
	rel, _ := path.Rel(wide("a"), wide("b"))
	if got, e := path.Join(wide("a"), rel); got != wide("b") || e != api.OK || len(rel) != 32*3+32*65-1 {
		t.Errorf("of the widest paths: %d bytes, %d", len(rel), e)
	}
}

// A5: the path with which all begin.
func TestCommon(t *testing.T) {
	for _, c := range []struct {
		paths []string
		want  string
	}{
		{nil, ""}, {[]string{""}, ""}, {[]string{"a/b"}, "a/b"}, {[]string{"a/b/c", "a/b", "a/bc"}, "a"},
		{[]string{"a/b", "a/b"}, "a/b"}, {[]string{"a/b", "a/b", "a/b/c"}, "a/b"}, {[]string{"a/b/c", "a/b/d"}, "a/b"},
		{[]string{"a", "ab"}, ""}, {[]string{"a/b", ""}, ""}, {[]string{"", "a/b"}, ""}, {[]string{"a/x/c", "a/y/c"}, "a"},
		{[]string{"a", "b", "a"}, ""}, {[]string{deep(32), deep(31)}, deep(31)}, {[]string{deep(32)}, deep(32)},
	} {
		if got, e := path.Common(c.paths...); got != c.want || e != api.OK {
			t.Errorf("Common(%q): %q, %d", c.paths, got, e)
		}
	}
}

// A5: Common is at or above each, and nothing below it is above all.
func TestCommonAtRandom(t *testing.T) {
	r := source()
	for range 5000 {
		l := make([]string, 1+r.IntN(3))
		for i := range l {
			l[i] = somePath(r)
		}
		got, e := path.Common(l...)
		if e != api.OK {
			t.Fatal(e)
		}
		for _, p := range l {
			if p != got && !slowAbove(got, p) {
				t.Errorf("Common(%q): %q", l, got)
			}
		}
		first, _ := slowNames(l[0])
		names, _ := slowNames(got)
		if len(first) == len(names) {
			continue
		}
		further := strings.Join(first[:len(names)+1], "/")
		if !slices.ContainsFunc(l, func(p string) bool { return p != further && !slowAbove(further, p) }) {
			t.Errorf("Common(%q): %q, not %q", l, got, further)
		}
	}
}

// A4, A5: a text that is no path is told at each place where it is handed in, and nothing beside it.
func TestOrdersOfNoPath(t *testing.T) {
	for _, s := range noPaths() {
		for _, l := range [][2]string{{s, "a"}, {"a", s}, {s, s}, {s, ""}, {"", s}} {
			if up, e := path.Above(l[0], l[1]); up || e != api.ErrPath {
				t.Errorf("Above(%q): %v, %d", l, up, e)
			}
			if c, e := path.Compare(l[0], l[1]); c != 0 || e != api.ErrPath {
				t.Errorf("Compare(%q): %d, %d", l, c, e)
			}
			if rel, e := path.Rel(l[0], l[1]); rel != "" || e != api.ErrPath {
				t.Errorf("Rel(%q): %q, %d", l, rel, e)
			}
			if p, e := path.Common(l[0], l[1]); p != "" || e != api.ErrPath {
				t.Errorf("Common(%q): %q, %d", l, p, e)
			}
		}
		if p, e := path.Common(s); p != "" || e != api.ErrPath {
			t.Errorf("Common(%q): %q, %d", s, p, e)
		}
		if p, e := path.Common("a", "b", "a/b", s); p != "" || e != api.ErrPath {
			t.Errorf("Common(.., %q): %q, %d", s, p, e)
		}
	}
}
