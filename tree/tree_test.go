package tree_test

import (
	"slices"
	"testing"

	"treadle/api"
	"treadle/tree"
)

// P5.1: trees that are right.
func TestCheckRight(t *testing.T) {
	for i, c := range [][]api.Entry{
		nil,
		{},
		row(f("a", "x")),
		row(d("a")),
		row(l("a", "nowhere/at/all")),
		row(d("a"), d("a/b"), f("a/b/c", "x"), f("a/c", ""), l("a-b", "a"), d("b")),
		row(d("a"), d("a/b"), d("a/b/c"), f("a/b/c/d", "x"), f("a/b/d", "x"), f("a/c", "x"), f("b", "x")),
		row(d("a"), f("a/z", ""), d("a-"), f("a-/a", ""), d("a.b"), d("ab"), f("ab/c", "")),
		files("n", 1024, 0),
		append(whole("n"), d("o"), f("o/p", "")),
		append(deepDirs(31), f(deep(32), "x")),
		deepDirs(32),
	} {
		if at, e := tree.Check(c); at != 0 || e != api.OK {
			t.Errorf("%d: Check: %d, %d", i, at, e)
		}
	}
	for _, e := range goodEntries() {
		if at, why := tree.Check(row(e)); at != 0 || why != api.OK {
			t.Errorf("Check(%s): %d, %d", show(e), at, why)
		}
	}
}

// P5.1: each thing that may be wrong, and its place.
func TestCheckWrong(t *testing.T) {
	wrongs := append(wrongTrees(), []wrong{
		{append(files("n", 1024, 0), d("z")), 1024, api.ErrMany},
		{slices.Repeat(row(d("a")), 5000), 1024, api.ErrMany},
		{row(d("a"), f("a/b", "x"), f("a/b/c", "x")), 2, api.ErrParent},
		{row(d("a"), l("a/b", "x"), f("a/b/c", "x")), 2, api.ErrParent},
		{row(d("a"), f("a/b/c", "x")), 1, api.ErrParent},
		{row(d("a"), f("ab/c", "x")), 1, api.ErrParent},
		{row(d("a"), d("a/b"), f("a-b/c", "x")), 2, api.ErrParent},
		{row(d("a"), d("a/b"), d("a/c"), f("a/d/e", "x")), 3, api.ErrParent},
		{row(d("a"), d("a/c"), d("b"), f("b/c/d", "x")), 3, api.ErrParent},
		{row(d("b"), f("c/b", "x")), 1, api.ErrParent},
		{row(d("a"), d("a-b"), f("a/b", "x")), 2, api.ErrOrder},
		{row(f("a/b", "x"), d("a")), 0, api.ErrParent},
		{row(d("a"), f("a/b", "x"), d("a")), 2, api.ErrOrder},
		{row(d("a"), d("B")), 1, api.ErrOrder},
		{append(whole("n"), l("o", "x")), 16, api.ErrBig},
		{append(row(l("a", "x")), whole("n")...), 16, api.ErrBig},
		{append(whole("n"), d("o"), f("o/p", ""), f("o/q", "x"), f("o/r", "x")), 18, api.ErrBig},
	}...)
	for _, c := range wrongs {
		if at, e := tree.Check(c.t); at != c.at || e != c.e {
			t.Errorf("Check(%s): %d, %d, not %d, %d", show(c.t), at, e, c.at, c.e)
		}
	}
}

// P5.1: of several faults of one entry the first one is told, and of several entries the first one, whatever it is.
func TestCheckOrderOfFaults(t *testing.T) {
	full := whole("n")
	for _, c := range []wrong{
		{append(full[:16:16], api.Entry{Path: "a/b", Kind: 7, Data: "x"}), 16, api.ErrKind},
		{append(full[:16:16], f("a/b", "x")), 16, api.ErrOrder},
		{append(full[:16:16], f("o/b", "x")), 16, api.ErrParent},
		{append(full[:16:16], f("o", "x"), api.Entry{}), 16, api.ErrBig},
		{append(full[:16:16], f("o/b", "x"), api.Entry{}), 16, api.ErrParent},
		{append(full[:16:16], f("n0000", ""), api.Entry{}), 16, api.ErrOrder},
		{append(row(f("a/b", "x")), full...), 0, api.ErrParent},
		{row(d("b"), f("a/b", "x")), 1, api.ErrOrder},
		{row(d("b"), f("b/a/c", "x"), d("a"), d("")), 1, api.ErrParent},
		{append(row(api.Entry{}), files("n", 1024, 0)...), 1024, api.ErrMany},
		{append(row(d("a"), d("a")), files("n", 1023, 0)...), 1024, api.ErrMany},
		{append(row(f("a/b", "x")), files("n", 1024, 2000)...), 1024, api.ErrMany},
		{files("n", 1025, 2000), 1024, api.ErrMany},
		{files("n", 1024, 1025), 1023, api.ErrBig},
		{files("n", 1024, 2048), 512, api.ErrBig},
	} {
		if at, e := tree.Check(c.t); at != c.at || e != c.e {
			t.Errorf("Check(%s): %d, %d, not %d, %d", show(c.t), at, e, c.at, c.e)
		}
	}
}

// P5.1: Check against the chapter's own words.
func TestCheckAtRandom(t *testing.T) {
	r := source()
	met := map[api.Errno]int{}
	for range 10000 {
		c := someRow(r)
		if r.IntN(4) == 0 {
			c = append(c, someEntry(r), someEntry(r))
		}
		want, why := slowCheck(c)
		if at, e := tree.Check(c); at != want || e != why {
			t.Fatalf("Check(%s): %d, %d, not %d, %d", show(c), at, e, want, why)
		}
		met[why]++
	}
	for _, e := range []api.Errno{api.OK, api.ErrKind, api.ErrOrder, api.ErrParent} {
		if met[e] < 100 {
			t.Errorf("error %d was met %d times", e, met[e])
		}
	}
}

// P5.1: every call that takes a tree tells first what is wrong with it; Find, Size and Walk tell of it nothing.
func TestWrongTreesEverywhere(t *testing.T) {
	good := row(d("a"), f("a/b", "x"))
	change := []api.Change{{Path: "zz", New: f("zz", "x")}}
	for _, c := range wrongTrees() {
		p := "a"
		if len(c.t) > 0 {
			p = c.t[0].Path
		}
		for _, q := range []string{"", "a", p, "a b"} {
			holdError(t, "Put", c.e)(tree.Put(c.t, f(q, "x")))
			holdError(t, "Remove", c.e)(tree.Remove(c.t, q))
			holdError(t, "Sub", c.e)(tree.Sub(c.t, q))
			holdError(t, "Graft", c.e)(tree.Graft(c.t, q, good))
			holdError(t, "Graft of it", c.e)(tree.Graft(good, q, c.t))
			if names, e := tree.Kids(c.t, q); len(names) != 0 || e != c.e {
				t.Errorf("Kids: %q, %d, not %d", names, e, c.e)
			}
			if e, there := tree.Find(c.t, q); there || e != (api.Entry{}) {
				t.Errorf("Find(%s, %q): %s", show(c.t), q, show(e))
			}
			for name, e := range tree.Walk(c.t, q) {
				t.Errorf("Walk(%s, %q): %q, %s", show(c.t), q, name, show(e))
			}
		}
		holdError(t, "Apply", c.e)(tree.Apply(c.t, change))
		holdError(t, "Apply of no changes", c.e)(tree.Apply(c.t, nil))
		holdError(t, "Apply of wrong changes", c.e)(tree.Apply(c.t, []api.Change{{}}))
		holdChanges(t, "Diff", c.e)(tree.Diff(c.t, good))
		holdChanges(t, "Diff to it", c.e)(tree.Diff(good, c.t))
		holdChanges(t, "Diff to itself", c.e)(tree.Diff(c.t, c.t))
		if n := tree.Size(c.t); n != 0 {
			t.Errorf("Size(%s): %d", show(c.t), n)
		}
	}
}

// P5.1: of two trees the first one's error is told first.
func TestTwoWrongTrees(t *testing.T) {
	for _, a := range wrongTrees() {
		for _, b := range wrongTrees()[:7] {
			holdError(t, "Graft", a.e)(tree.Graft(a.t, "a b", b.t))
			holdChanges(t, "Diff", a.e)(tree.Diff(a.t, b.t))
		}
	}
}

func holdError(t *testing.T, what string, want api.Errno) func([]api.Entry, api.Errno) {
	return func(got []api.Entry, e api.Errno) {
		t.Helper()
		if len(got) != 0 || e != want {
			t.Errorf("%s: %s, %d, not %d", what, show(got), e, want)
		}
	}
}

func holdChanges(t *testing.T, what string, want api.Errno) func([]api.Change, api.Errno) {
	return func(got []api.Change, e api.Errno) {
		t.Helper()
		if len(got) != 0 || e != want {
			t.Errorf("%s: %s, %d, not %d", what, show(got), e, want)
		}
	}
}

func holdTree(t *testing.T, what string, want []api.Entry, why api.Errno) func([]api.Entry, api.Errno) {
	return func(got []api.Entry, e api.Errno) {
		t.Helper()
		if !slices.Equal(got, want) || e != why {
			t.Fatalf("%s: %s, %d, not %s, %d", what, show(got), e, show(want), why)
		}
	}
}

// P5.3: the bytes of all entries.
func TestSize(t *testing.T) {
	for _, c := range []struct {
		t    []api.Entry
		want int
	}{
		{nil, 0},
		{row(d("a")), 0},
		{row(f("a", "")), 0},
		{row(d("a"), f("a/b", "x"), l("a/c", "b")), 2},
		{row(d("a"), f("a/b", "xyz"), l("a/c", long(4096)), f("b", "\x00\xff")), 4101},
		{whole("n"), 1 << 20},
		{append(whole("n"), d("o"), f("o/p", "")), 1 << 20},
		{append(whole("n"), f("o", "x")), 0},
		{row(f("b", "x"), f("a", "x")), 0},
		{files("n", 1024, 1024), 1 << 20},
		{files("n", 1025, 1), 0},
	} {
		if n := tree.Size(c.t); n != c.want {
			t.Errorf("Size(%s): %d, not %d", show(c.t), n, c.want)
		}
	}
}
