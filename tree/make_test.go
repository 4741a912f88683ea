package tree_test

import (
	"slices"
	"testing"

	"treadle/api"
	"treadle/tree"
)

type made struct {
	l, want []api.Entry
	e       api.Errno
}

func holdMade(t *testing.T, cases []made) {
	t.Helper()
	for _, c := range cases {
		if got, e := tree.Make(c.l...); !slices.Equal(got, c.want) || e != c.e {
			t.Errorf("Make(%s): %s, %d, not %s, %d", show(c.l), show(got), e, show(c.want), c.e)
		}
	}
}

// P5.2: entries are put in order, and directories that lack are put in.
func TestMake(t *testing.T) {
	holdMade(t, []made{
		{nil, nil, api.OK},
		{row(), nil, api.OK},
		{row(f("a/b/c", "x")), row(d("a"), d("a/b"), f("a/b/c", "x")), api.OK},
		{row(d("a/b")), row(d("a"), d("a/b")), api.OK},
		{row(l("a/b", "c")), row(d("a"), l("a/b", "c")), api.OK},
		{row(f("b", "x"), f("a", "y")), row(f("a", "y"), f("b", "x")), api.OK},
		{row(f("a/b", "x"), d("a")), row(d("a"), f("a/b", "x")), api.OK},
		{row(f("a/b/c", "x"), d("a/b")), row(d("a"), d("a/b"), f("a/b/c", "x")), api.OK},
		{row(f("a/b/c", "x"), d("a")), row(d("a"), d("a/b"), f("a/b/c", "x")), api.OK},
		{row(f("a/b/c", "x"), f("a/b/d", "y"), f("a/e", "z")), row(d("a"), d("a/b"), f("a/b/c", "x"), f("a/b/d", "y"), f("a/e", "z")), api.OK},
		{row(l("a-b", "x"), f("a/b", "y"), f("a", "z")), nil, api.ErrParent},
		{row(l("a-b", "x"), f("a/b", "y")), row(d("a"), f("a/b", "y"), l("a-b", "x")), api.OK},
		{row(f("b/c", "x"), f("a/c", "x")), row(d("a"), f("a/c", "x"), d("b"), f("b/c", "x")), api.OK},
		{row(f(deep(32), "x")), append(deepDirs(31), f(deep(32), "x")), api.OK},
	})
	for _, e := range goodEntries() {
		holdMade(t, []made{{row(e), row(e), api.OK}})
	}
}

// P5.2: each thing that may be wrong, wherever it stands.
func TestMakeWrong(t *testing.T) {
	holdMade(t, []made{
		{row(f("a", "x"), f("a/b", "y")), nil, api.ErrParent},
		{row(f("a/b", "y"), f("a", "x")), nil, api.ErrParent},
		{row(l("a", "x"), d("a/b")), nil, api.ErrParent},
		{row(d("a"), l("a/b", "x"), f("a/b/c/d", "y")), nil, api.ErrParent},
		{row(f("a/b/c/d", "y"), f("a", "x")), nil, api.ErrParent},
		{row(f("a/b/c", "y"), d("a/b"), f("a", "x")), nil, api.ErrParent},
		{row(f("a", "x"), d("a/b"), f("a/b/c", "y")), nil, api.ErrParent},
		{row(f("a", "x"), f("a", "x")), nil, api.ErrThere},
		{row(d("a"), d("a")), nil, api.ErrThere},
		{row(d("a"), f("a", "x")), nil, api.ErrThere},
		{row(f("a/b", "x"), d("c"), l("a/b", "x")), nil, api.ErrThere},
	})
	for _, e := range noEntries() {
		holdMade(t, []made{
			{row(e), nil, api.ErrKind},
			{row(d("c"), d("c"), f("d", "x"), f("d/e", "x"), e), nil, api.ErrKind},
			{row(e, d("c")), nil, api.ErrKind},
		})
	}
}

// P5.2: the directories that are put in count, too.
func TestMakeTooMuch(t *testing.T) {
	below := files("a/n", 1024, 0)
	holdMade(t, []made{
		{files("n", 1024, 0), files("n", 1024, 0), api.OK},
		{files("n", 1025, 0), nil, api.ErrMany},
		{below[:1023], append(row(d("a")), below[:1023]...), api.OK},
		{append(below[:1023:1023], d("a")), append(row(d("a")), below[:1023]...), api.OK},
		{below, nil, api.ErrMany},
		{append(files("n", 993, 0), f(deep(32), "x")), nil, api.ErrMany},
		{append(files("n", 992, 0), f(deep(32), "x")), slices.Concat(deepDirs(31), row(f(deep(32), "x")), files("n", 992, 0)), api.OK},
		{whole("n"), whole("n"), api.OK},
		{append(whole("n"), f("a/b", "")), append(row(d("a"), f("a/b", "")), whole("n")...), api.OK},
		{append(whole("n"), f("a/b", "x")), nil, api.ErrBig},
		{append(row(l("a", "x")), whole("n")...), nil, api.ErrBig},
		{files("n", 40, 65536), nil, api.ErrBig},
	})
}

// P5.2: of several faults the first one is told, each being looked for in all entries.
func TestMakeOrderOfFaults(t *testing.T) {
	much := files("n", 1025, 2000)
	parent := row(f("a", "x"), f("a/b", "y"))
	there := row(d("c"), d("c"))
	holdMade(t, []made{
		{slices.Concat(much, parent, there, row(d(""))), nil, api.ErrKind},
		{slices.Concat(parent, row(api.Entry{Path: "z", Kind: 9})), nil, api.ErrKind},
		{slices.Concat(much, parent, there), nil, api.ErrThere},
		{slices.Concat(parent, there), nil, api.ErrThere},
		{slices.Concat(much, much[:1]), nil, api.ErrThere},
		{slices.Concat(whole("n"), row(f("o", "x")), there), nil, api.ErrThere},
		{slices.Concat(much, parent), nil, api.ErrParent},
		{slices.Concat(whole("n"), parent), nil, api.ErrParent},
		{much, nil, api.ErrMany},
		{append(much[:524:524], files("b/c/n", 499, 0)...), nil, api.ErrMany},
		{append(much[:525:525], files("b/c/n", 497, 0)...), nil, api.ErrBig},
	})
}

// P5.2: Make against the chapter's own words, and right.
func TestMakeAtRandom(t *testing.T) {
	r := source()
	met := map[api.Errno]int{}
	for range 20000 {
		l := make([]api.Entry, r.IntN(8))
		for i := range l {
			l[i] = someEntry(r)
		}
		want, why := slowMake(l)
		got, e := tree.Make(l...)
		holdTree(t, "Make", want, why)(got, e)
		if _, e := tree.Check(got); e != api.OK {
			t.Fatalf("Make(%s): %s is not right: %d", show(l), show(got), e)
		}
		met[why]++
	}
	for _, e := range []api.Errno{api.OK, api.ErrKind, api.ErrThere, api.ErrParent} {
		if met[e] < 100 {
			t.Errorf("error %d was met %d times", e, met[e])
		}
	}
}

// P5.8: Make of a right tree is it, in whatever order its entries come.
func TestMakeOfAnyOrder(t *testing.T) {
	r := source()
	trees := [][]api.Entry{whole("n"), files("n", 1024, 3), deepDirs(32)}
	for range 2000 {
		trees = append(trees, someTree(r))
	}
	for _, want := range trees {
		l := slices.Clone(want)
		r.Shuffle(len(l), func(i, j int) { l[i], l[j] = l[j], l[i] })
		holdTree(t, "Make", want, api.OK)(tree.Make(l...))
		slices.Reverse(l)
		holdTree(t, "Make", want, api.OK)(tree.Make(l...))
		holdTree(t, "Make", want, api.OK)(tree.Make(want...))
	}
}
