package tree_test

import (
	"math/rand/v2"
	"slices"
	"testing"

	"treadle/api"
	"treadle/tree"
)

func change(old, now api.Entry) api.Change {
	p := now.Path
	if now == (api.Entry{}) {
		p = old.Path
	}
	return api.Change{Path: p, Old: old, New: now}
}

func changes(c ...api.Change) []api.Change { return c }

func gone(e api.Entry) api.Change { return change(e, api.Entry{}) }
func come(e api.Entry) api.Change { return change(api.Entry{}, e) }

// P5.6: of each path at which two trees are unlike, the change.
func TestDiff(t *testing.T) {
	for _, c := range []struct {
		a, b []api.Entry
		want []api.Change
	}{
		{nil, nil, nil},
		{row(f("a", "x")), row(f("a", "y"), d("b")), changes(change(f("a", "x"), f("a", "y")), come(d("b")))},
		{row(f("a", "x")), row(f("a", "x")), nil},
		{row(f("a", "x")), nil, changes(gone(f("a", "x")))},
		{nil, row(f("a", "x")), changes(come(f("a", "x")))},
		{row(f("a", "x")), row(l("a", "x")), changes(change(f("a", "x"), l("a", "x")))},
		{row(f("a", "")), row(d("a")), changes(change(f("a", ""), d("a")))},
		{third(), row(f("a", "x")), changes(change(d("a"), f("a", "x")), gone(f("a/b", "x")), gone(l("a/c", "b")))},
		{row(f("a", "x")), third(), changes(change(f("a", "x"), d("a")), come(f("a/b", "x")), come(l("a/c", "b")))},
		{row(d("b"), f("b/c", "")), row(d("a"), d("b"), f("b/a", ""), f("b/c", "1"), d("c")), changes(come(d("a")), come(f("b/a", "")), change(f("b/c", ""), f("b/c", "1")), come(d("c")))},
		{row(d("a"), f("a/b", ""), f("a-", "")), row(f("a-", ""), f("a.", "")), changes(gone(d("a")), gone(f("a/b", "")), come(f("a.", "")))},
	} {
		if got, e := tree.Diff(c.a, c.b); !slices.Equal(got, c.want) || e != api.OK {
			t.Errorf("Diff(%s, %s): %s, %d", show(c.a), show(c.b), show(got), e)
		}
	}
	a, b := files("a", 1024, 1), files("b", 1024, 1)
	if got, e := tree.Diff(a, b); len(got) != 2048 || got[0] != gone(a[0]) || got[2047] != come(b[1023]) || e != api.OK {
		t.Errorf("Diff of full trees: %d, %d", len(got), e)
	}
}

// P5.6: changes are made at once, so that what they need of one another is there.
func TestApply(t *testing.T) {
	full := files("n", 1024, 1024)
	for i, c := range []struct {
		t    []api.Entry
		l    []api.Change
		want []api.Entry
	}{
		{nil, nil, nil},
		{third(), nil, third()},
		{row(f("a", "x")), changes(change(f("a", "x"), f("a", "y")), come(d("b"))), row(f("a", "y"), d("b"))},
		{third(), changes(gone(d("a")), gone(f("a/b", "x")), gone(l("a/c", "b"))), nil},
		{third(), changes(change(d("a"), f("a", "q")), gone(f("a/b", "x")), gone(l("a/c", "b"))), row(f("a", "q"))},
		{row(f("a", "x")), changes(change(f("a", "x"), d("a")), come(d("a/b")), come(f("a/b/c", ""))), row(d("a"), d("a/b"), f("a/b/c", ""))},
		{third(), changes(change(f("a/b", "x"), d("a/b")), come(f("a/b/c", "")), come(d("b"))), row(d("a"), d("a/b"), f("a/b/c", ""), l("a/c", "b"), d("b"))},
		{third(), changes(change(d("a"), d("a")), change(f("a/b", "x"), f("a/b", "x"))), third()},
		{third(), changes(come(f("A", "")), gone(f("a/b", "x")), come(f("a-", ""))), row(f("A", ""), d("a"), l("a/c", "b"), f("a-", ""))},
		{full, changes(gone(full[0]), come(f("o", long(1024)))), append(full[1:1024:1024], f("o", long(1024)))},
		{whole("n"), changes(change(f("n0000", long(65536)), f("n0000", "")), come(f("o", long(65536)))), append(row(f("n0000", "")), append(whole("n")[1:], f("o", long(65536)))...)},
	} {
		got, e := tree.Apply(c.t, c.l)
		if !slices.Equal(got, c.want) || e != api.OK {
			t.Errorf("%d: Apply(%s, %s): %s, %d", i, show(c.t), show(c.l), show(got), e)
		}
	}
}

// wrongChanges are lists of changes that may not be, whatever the tree is.
func wrongChanges() [][]api.Change {
	x, y := f("a/b", "x"), f("a/b", "y")
	l := [][]api.Change{
		{{}},
		{{Path: "a"}},
		{{Path: "a/b", Old: x}, {Path: "z"}},
		{{Path: "a", Old: x}},
		{{Path: "a", New: x}},
		{{Path: "a", Old: x, New: y}},
		{{Path: "a/b", Old: x, New: f("a", "x")}},
		{{Path: "a/b", Old: f("a", "x"), New: y}},
		{{Old: x, New: y}},
		{{Path: "a/b", Old: x, New: api.Entry{Path: "a/b"}}},
		{{Path: "a/b", Old: api.Entry{Path: "a/b"}, New: y}},
		{{Path: "a/b", Old: x, New: api.Entry{Data: "x"}}},
		{{Path: "a/b", Old: api.Entry{Path: "a/b"}, New: api.Entry{Path: "a/b"}}},
		{change(x, y), change(x, y)},
		{change(x, y), change(y, x)},
		{come(d("c")), come(d("b"))},
		{come(d("a-")), change(x, y)},
		{change(x, y), change(d("a"), d("a"))},
		{come(d("c")), come(d("d")), come(d("d"))},
	}
	for _, e := range noEntries() {
		if e == (api.Entry{}) {
			continue
		}
		l = append(l, changes(come(e)), changes(gone(e)))
		if e.Path == "a" {
			l = append(l, changes(change(d("a"), e)), changes(change(e, f("a", ""))))
		}
	}
	return l
}

// P5.6: changes that may not be are told ahead of all else that is wrong with them.
func TestApplyWrongChanges(t *testing.T) {
	for _, c := range wrongChanges() {
		holdError(t, "Apply "+show(c), api.ErrArg)(tree.Apply(third(), c))
		holdError(t, "Apply "+show(c), api.ErrArg)(tree.Apply(nil, c))
	}
	for _, c := range []api.Change{come(f("a", "x")), gone(d("b")), come(f("a/b/c/d", "")), change(d("a"), f("a", "q"))} {
		holdError(t, "Apply "+show(c), api.ErrArg)(tree.Apply(third(), changes(c, api.Change{Path: "z"})))
		holdError(t, "Apply "+show(c), api.ErrArg)(tree.Apply(third(), changes(c, come(d("Z")))))
	}
}

// P5.6: what stands at a path must be the change's Old, and that is told ahead of what would come.
func TestApplyNotThere(t *testing.T) {
	for _, l := range [][]api.Change{
		changes(come(f("a", "y"))),
		changes(gone(d("b"))),
		changes(gone(f("a/b", "y"))),
		changes(gone(d("a/b"))),
		changes(gone(l("a/b", "x"))),
		changes(change(f("a/b", ""), f("a/b", "x"))),
		changes(change(f("a/b", "y"), f("a/b", "x"))),
		changes(come(d("a"))),
		changes(come(f("a/b", "x"))),
		changes(gone(f("a/b/c", "x"))),
		changes(change(d("a"), d("a")), gone(f("b", "x"))),
		changes(gone(d("a")), gone(f("b", "x"))),
		changes(come(f("a/b/c", "")), gone(f("b", "x"))),
		changes(gone(f("A", "x")), gone(d("a"))),
	} {
		holdError(t, "Apply "+show(l), api.ErrNone)(tree.Apply(third(), l))
	}
	holdError(t, "Apply", api.ErrNone)(tree.Apply(row(f("a", "x")), changes(come(f("a", "y")))))
	holdError(t, "Apply", api.ErrNone)(tree.Apply(nil, changes(gone(d("a")))))
	holdError(t, "Apply to a full tree", api.ErrNone)(tree.Apply(files("n", 1024, 1024), changes(come(f("o", "x")), gone(d("p")))))
}

// P5.6: what would come is held against Check, and its first fault is told.
func TestApplyWhatComes(t *testing.T) {
	full := files("n", 1024, 1024)
	low := append(row(d("a"), f("a/x", "")), whole("n")...)
	high := append(whole("n"), d("z"), f("z/x", ""))
	for i, c := range []struct {
		t []api.Entry
		l []api.Change
		e api.Errno
	}{
		{third(), changes(gone(d("a"))), api.ErrParent},
		{third(), changes(change(d("a"), f("a", "q"))), api.ErrParent},
		{third(), changes(change(d("a"), l("a", "q")), gone(f("a/b", "x"))), api.ErrParent},
		{third(), changes(come(f("a/b/c", ""))), api.ErrParent},
		{third(), changes(come(f("b/c", ""))), api.ErrParent},
		{third(), changes(change(f("a/b", "x"), l("a/b", "x")), come(d("a/b/c"))), api.ErrParent},
		{nil, changes(come(d("a")), come(f("a/b/c", ""))), api.ErrParent},
		{full, changes(come(d("o"))), api.ErrMany},
		{full, changes(come(d("a")), gone(full[3])), api.OK},
		{full, changes(change(full[3], f("n0003", long(1025)))), api.ErrBig},
		{full, changes(change(full[3], l("n0003", long(1025)))), api.ErrBig},
		{full, changes(come(f("o/p", "x"))), api.ErrMany},
		{full, changes(come(f("a/b", long(2000))), come(f("c", "x"))), api.ErrMany},
		{low, changes(change(d("a"), l("a", "q"))), api.ErrParent},
		{low, changes(come(f("a/y", "x"))), api.ErrBig},
		{high, changes(come(f("o", "x")), gone(d("z"))), api.ErrBig},
		{high, changes(gone(d("z")), come(f("zz", "x"))), api.ErrParent},
		{high, changes(change(d("z"), l("z", "x"))), api.ErrBig},
		{high, changes(come(f("z/y", "")), come(f("z/yy", ""))), api.OK},
		{high, changes(come(l("z/y/z", "x"))), api.ErrParent},
	} {
		if got, e := tree.Apply(c.t, c.l); e != c.e || e != api.OK && got != nil {
			t.Errorf("%d: Apply(%s, %s): %d, not %d", i, show(c.t), show(c.l), e, c.e)
		}
	}
}

// someChanges are mostly such as lead from a tree to another one.
func someChanges(r *rand.Rand, a []api.Entry) []api.Change {
	l, _ := slowDiff(a, someTree(r))
	for range r.IntN(3) {
		if len(l) == 0 {
			break
		}
		i, j := r.IntN(len(l)), r.IntN(len(l))
		switch r.IntN(8) {
		case 0, 1:
			l = slices.Delete(l, i, i+1)
		case 2:
			l[i], l[j] = l[j], l[i]
		case 3:
			l[i].New = api.Entry{}
		case 4:
			l[i].New = someEntry(r)
			l[i].New.Path = l[i].Path
		case 5:
			l[i].Old = l[j].Old
		case 6:
			l[i].Old = f(l[i].Path, "z")
		}
	}
	return l
}

// P5.6: Diff and Apply against the chapter's own words.
func TestChangesAtRandom(t *testing.T) {
	r := source()
	met := map[api.Errno]int{}
	for range 6000 {
		a, b := someRow(r), someRow(r)
		want, why := slowDiff(a, b)
		if got, e := tree.Diff(a, b); !slices.Equal(got, want) || e != why {
			t.Fatalf("Diff(%s, %s): %s, %d, not %s, %d", show(a), show(b), show(got), e, show(want), why)
		}
		l := someChanges(r, a)
		next, why := slowApply(a, l)
		holdTree(t, "Apply("+show(a)+", "+show(l)+")", next, why)(tree.Apply(a, l))
		met[why]++
	}
	for _, e := range []api.Errno{api.OK, api.ErrArg, api.ErrNone, api.ErrParent, api.ErrOrder} {
		if met[e] < 50 {
			t.Errorf("error %d was met %d times", e, met[e])
		}
	}
}

// P5.8: Apply of what Diff tells leads from one tree to the other; Diff of a tree and itself is nothing.
func TestDiffAndApply(t *testing.T) {
	r := source()
	trees := [][]api.Entry{nil, third(), wide(), whole("n"), whole("k"), files("n", 1024, 1024), files("m", 1024, 1024), deepDirs(32)}
	for range 60 {
		trees = append(trees, someTree(r))
	}
	for i, a := range trees {
		holdChanges(t, "Diff to itself", api.OK)(tree.Diff(a, slices.Clone(a)))
		for j, b := range trees {
			if i > 8 && j > 8 && (i+j)%5 != 0 {
				continue
			}
			l, e := tree.Diff(a, b)
			if e != api.OK {
				t.Fatalf("Diff: %d", e)
			}
			holdTree(t, "Apply of Diff", b, api.OK)(tree.Apply(a, l))
		}
	}
}
