package merkle_test

import (
	"fmt"
	"slices"
	"testing"

	"treadle/api"
	"treadle/merkle"
	"treadle/tree"
)

func holdDiffer(t *testing.T, what string, want []string, n int, why api.Errno) func([]string, int, api.Errno) {
	return func(got []string, m int, e api.Errno) {
		t.Helper()
		if !slices.Equal(got, want) || m != n || e != why || e != api.OK && got != nil {
			t.Errorf("%s: %q, %d, %d, not %q, %d, %d", what, got, m, e, want, n, why)
		}
	}
}

// M4: the chapter's third example, and the edges.
func TestDiffer(t *testing.T) {
	third := func(s string) []api.Entry { return row(d("a"), f("a/x", "1"), d("b"), f("b/y", s)) }
	for i, c := range []struct {
		a, b []api.Entry
		want []string
		n    int
	}{
		{third("2"), third("2"), nil, 0},
		{third("2"), third("3"), []string{"b/y"}, 2},
		{nil, nil, nil, 0},
		{nil, row(), nil, 0},
		{nil, row(f("a", "x")), []string{"a"}, 1},
		{row(d("a")), nil, []string{"a"}, 1},
		{row(f("a", "x")), row(l("a", "x")), []string{"a"}, 1},
		{row(f("a", "")), row(d("a")), []string{"a"}, 1},
		{second(), row(f("a", "x")), []string{"a", "a/b"}, 1},
		{second(), row(d("a")), []string{"a/b"}, 2},
		{second(), row(d("a"), l("a/b", "x")), []string{"a/b"}, 2},
		{second(), row(d("b"), f("b/b", "x")), []string{"a", "a/b", "b", "b/b"}, 1},
		{second(), row(d("a"), d("a/b"), d("a/b/c")), []string{"a/b", "a/b/c"}, 2},
		{row(d("a"), f("a/z", "")), row(d("a"), f("a-", "")), []string{"a/z", "a-"}, 2},
		{wide(), append(wide(), d("c")), []string{"c"}, 1},
		{wide(), slices.Concat(wide()[:12], row(f("ab/a/a/z", "")), wide()[13:]), []string{"ab/a/a/z"}, 4},
		{wide(), slices.Concat(wide()[:3], row(f("a/a/b", "y")), wide()[4:12], row(f("ab/a/a/z", "")), wide()[13:]), []string{"a/a/b", "ab/a/a/z"}, 6},
		{append(deepDirs(31), f(deep(32), "x")), append(deepDirs(31), f(deep(32), "y")), []string{deep(32)}, 32},
		{deepDirs(32), deepDirs(31), []string{deep(32)}, 32},
		{row(f("a", long(65536))), row(f("a", long(65535)+"m")), []string{"a"}, 1},
	} {
		what := fmt.Sprintf("%d: Differ(%s, %s)", i, show(c.a), show(c.b))
		holdDiffer(t, what, c.want, c.n, api.OK)(merkle.Differ(c.a, c.b))
		holdDiffer(t, what, c.want, c.n, api.OK)(merkle.Differ(c.b, c.a))
	}
}

// M4: full trees that differ at one path, everywhere, and in nothing.
func TestDifferOfFullTrees(t *testing.T) {
	a, b := files("n", 1024, 1), files("n", 1024, 1)
	holdDiffer(t, "in nothing", nil, 0, api.OK)(merkle.Differ(a, b))
	b[1023].Data = "y"
	holdDiffer(t, "at one path", []string{"n1023"}, 1, api.OK)(merkle.Differ(a, b))
	if got, n, e := merkle.Differ(a, files("m", 1024, 1)); len(got) != 2048 || got[0] != "m0000" || got[2047] != "n1023" || n != 1 || e != api.OK {
		t.Errorf("everywhere: %d, %d, %d", len(got), n, e)
	}
	a, b = nil, nil
	for i := range 512 {
		dir := fmt.Sprintf("d%03d", i)
		a, b = append(a, d(dir), f(dir+"/a", "x")), append(b, d(dir), f(dir+"/a", "y"))
	}
	if got, n, e := merkle.Differ(a, b); len(got) != 512 || n != 513 || e != api.OK {
		t.Errorf("in each directory: %d, %d, %d", len(got), n, e)
	}
	a[1].Data = "y"
	if got, n, e := merkle.Differ(a, b); len(got) != 511 || n != 512 || e != api.OK {
		t.Errorf("in each directory but one: %d, %d, %d", len(got), n, e)
	}
	holdDiffer(t, "of whole trees", []string{"o", "o/p"}, 1, api.OK)(merkle.Differ(whole("n"), append(whole("n"), d("o"), f("o/p", ""))))
}

// M4: of two trees that are not right the first one's error is told.
func TestDifferOfWrongTrees(t *testing.T) {
	for _, a := range wrongTrees() {
		for _, b := range wrongTrees()[:11] {
			holdDiffer(t, "Differ", nil, 0, a.e)(merkle.Differ(a.t, b.t))
		}
	}
}

// M4: Differ against the chapter's own words.
func TestDifferAtRandom(t *testing.T) {
	r := source()
	met, counts := map[api.Errno]int{}, map[int]int{}
	for range 10000 {
		a := someRow(r)
		b := someNeighbour(r, a)
		want, n, why := slowDiffer(a, b)
		holdDiffer(t, "Differ("+show(a)+", "+show(b)+")", want, n, why)(merkle.Differ(a, b))
		if t.Failed() {
			return
		}
		met[why]++
		counts[n]++
		changes, _ := tree.Diff(a, b)
		if len(changes) != len(want) || why == api.OK && (n == 0) != (len(want) == 0) {
			t.Fatalf("%d changes, %d directories", len(changes), n)
		}
	}
	for _, e := range []api.Errno{api.OK, api.ErrKind, api.ErrOrder, api.ErrParent} {
		if met[e] < 50 {
			t.Errorf("error %d was met %d times", e, met[e])
		}
	}
	for n := range 4 {
		if counts[n] < 50 {
			t.Errorf("%d directories were met %d times", n, counts[n])
		}
	}
}
