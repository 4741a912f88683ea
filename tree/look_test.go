package tree_test

import (
	"slices"
	"strings"
	"testing"

	"treadle/api"
	"treadle/tree"
)

// third is the tree of the chapter's third example.
func third() []api.Entry { return row(d("a"), f("a/b", "x"), l("a/c", "b")) }

// wide has names that begin alike, of which some are directories.
func wide() []api.Entry {
	return row(d("a"), d("a/a"), f("a/a/a", "1"), f("a/b", ""), d("a-"), f("a-/a", "2"), f("a-b", "3"), l("a.", "a"), d("ab"), d("b"), d("b/a"), l("b/a/a", "x"), d("b/b"))
}

// P5.3: what stands at each path, and nothing at all others.
func TestFind(t *testing.T) {
	for _, c := range [][]api.Entry{nil, third(), wide(), whole("n"), files("n", 1024, 1), deepDirs(32), row(f("a", ""))} {
		for _, want := range c {
			if e, there := tree.Find(c, want.Path); e != want || !there {
				t.Errorf("Find(%q): %s, %v", want.Path, show(e), there)
			}
		}
		lacking := append(noPaths(), "", "0", "zz", "a/zz", "a/b/c", "b/a/a/a", "a/a/aa", "a-/", "ab/c", "A", "n0000/n", deep(32)+"b")
		for _, p := range lacking {
			if e, there := tree.Find(c, p); there || e != (api.Entry{}) {
				t.Errorf("Find(%q): %s, %v", p, show(e), there)
			}
		}
	}
}

// P5.3: the names of each directory.
func TestKids(t *testing.T) {
	for _, c := range []struct {
		t    []api.Entry
		dir  string
		want []string
		e    api.Errno
	}{
		{third(), "a", []string{"b", "c"}, api.OK},
		{third(), "", []string{"a"}, api.OK},
		{third(), "a/b", nil, api.ErrFile},
		{third(), "a/c", nil, api.ErrFile},
		{third(), "b", nil, api.ErrNone},
		{third(), "a/d", nil, api.ErrNone},
		{third(), "a/b/c", nil, api.ErrNone},
		{third(), "a/", nil, api.ErrPath},
		{nil, "", nil, api.OK},
		{nil, "a", nil, api.ErrNone},
		{row(d("a")), "a", nil, api.OK},
		{wide(), "", []string{"a", "a-", "a-b", "a.", "ab", "b"}, api.OK},
		{wide(), "a", []string{"a", "b"}, api.OK},
		{wide(), "a/a", []string{"a"}, api.OK},
		{wide(), "a-", []string{"a"}, api.OK},
		{wide(), "a-b", nil, api.ErrFile},
		{wide(), "a.", nil, api.ErrFile},
		{wide(), "ab", nil, api.OK},
		{wide(), "b", []string{"a", "b"}, api.OK},
		{wide(), "b/b", nil, api.OK},
		{row(d("Z"), d("a"), d("a/-"), d("a/-/x"), d("a/0"), d("a/A"), d("a/_"), d("a/a"), d("a/a-"), d("a/aa")), "a", []string{"-", "0", "A", "_", "a", "a-", "aa"}, api.OK},
		{deepDirs(32), deep(31), []string{"a"}, api.OK},
		{deepDirs(32), deep(32), nil, api.OK},
	} {
		if got, e := tree.Kids(c.t, c.dir); !slices.Equal(got, c.want) || e != c.e {
			t.Errorf("Kids(%s, %q): %q, %d, not %q, %d", show(c.t), c.dir, got, e, c.want, c.e)
		}
	}
	if names, e := tree.Kids(files("n", 1024, 0), ""); len(names) != 1024 || names[1023] != "n1023" || e != api.OK {
		t.Errorf("Kids of 1024: %d, %d", len(names), e)
	}
	for _, p := range noPaths() {
		if names, e := tree.Kids(third(), p); names != nil || e != api.ErrPath {
			t.Errorf("Kids(%q): %q, %d", p, names, e)
		}
	}
}

// P5.3: Kids and Find against the chapter's own words.
func TestLooksAtRandom(t *testing.T) {
	r := source()
	met := map[api.Errno]int{}
	for range 6000 {
		c := someRow(r)
		p := someDir(r, c)
		names, why := slowKids(c, p)
		if got, e := tree.Kids(c, p); !slices.Equal(got, names) || e != why {
			t.Fatalf("Kids(%s, %q): %q, %d, not %q, %d", show(c), p, got, e, names, why)
		}
		met[why]++
		want, bytes := api.Entry{}, 0
		if _, e := slowCheck(c); e == api.OK {
			want = tableOf(c)[p]
			for _, e := range c {
				bytes += len(e.Data)
			}
		}
		if got, there := tree.Find(c, p); got != want || there != (want.Kind != api.KindNone) {
			t.Fatalf("Find(%s, %q): %s, %v", show(c), p, show(got), there)
		}
		if n := tree.Size(c); n != bytes {
			t.Fatalf("Size(%s): %d, not %d", show(c), n, bytes)
		}
	}
	for _, e := range []api.Errno{api.OK, api.ErrPath, api.ErrNone, api.ErrFile, api.ErrOrder, api.ErrParent} {
		if met[e] < 50 {
			t.Errorf("error %d was met %d times", e, met[e])
		}
	}
}

// told is what a walk tells, each with its name ahead.
func told(t []api.Entry, dir string) (names []string, l []api.Entry) {
	for name, e := range tree.Walk(t, dir) {
		names, l = append(names, name), append(l, e)
	}
	return names, l
}

// P5.7: all entries below a directory, each with its last name, its path as it stands in the tree.
func TestWalk(t *testing.T) {
	w := wide()
	for _, c := range []struct {
		t    []api.Entry
		dir  string
		want []api.Entry
	}{
		{third(), "a", third()[1:]},
		{third(), "", third()},
		{third(), "a/b", nil},
		{third(), "a/c", nil},
		{third(), "b", nil},
		{third(), "a/", nil},
		{third(), "a/b/c", nil},
		{nil, "", nil},
		{nil, "a", nil},
		{w, "", w},
		{w, "a", w[1:4]},
		{w, "a/a", w[2:3]},
		{w, "a-", w[5:6]},
		{w, "ab", nil},
		{w, "b", w[10:]},
		{w, "b/a", w[11:12]},
		{w, "b/b", nil},
		{deepDirs(32), deep(30), deepDirs(32)[30:]},
		{files("n", 1024, 1), "", files("n", 1024, 1)},
	} {
		names, l := told(c.t, c.dir)
		if !slices.Equal(l, c.want) {
			t.Errorf("Walk(%s, %q): %s, not %s", show(c.t), c.dir, show(l), show(c.want))
		}
		for i, e := range l {
			if want := e.Path[strings.LastIndex(e.Path, "/")+1:]; names[i] != want {
				t.Errorf("Walk: %q is named %q", e.Path, names[i])
			}
		}
	}
	for _, p := range noPaths() {
		if _, l := told(wide(), p); l != nil {
			t.Errorf("Walk(%q): %s", p, show(l))
		}
	}
}

// P5.7: Walk against the chapter's own words.
func TestWalkAtRandom(t *testing.T) {
	r := source()
	for range 5000 {
		c := someRow(r)
		dir := someDir(r, c)
		var want []api.Entry
		if _, e := slowCheck(c); e == api.OK && tableOf(c).isDir(dir) {
			for _, e := range c {
				if slowBelow(e.Path, dir) {
					want = append(want, e)
				}
			}
		}
		if _, l := told(c, dir); !slices.Equal(l, want) {
			t.Fatalf("Walk(%s, %q): %s, not %s", show(c), dir, show(l), show(want))
		}
	}
}

// R4: a walk may be left at any entry, and gone over again.
func TestWalkIsLeft(t *testing.T) {
	w := wide()
	walk := tree.Walk(w, "")
	for most := range len(w) + 1 {
		var l []api.Entry
		for _, e := range walk {
			if len(l) == most {
				break
			}
			l = append(l, e)
		}
		if !slices.Equal(l, w[:most]) {
			t.Errorf("left behind %d: %s", most, show(l))
		}
	}
	calls := 0
	walk(func(string, api.Entry) bool { calls++; return false })
	if calls != 1 {
		t.Errorf("went on %d times", calls)
	}
}

// R4: a walk may be nested in itself and in others.
func TestWalkIsNested(t *testing.T) {
	w := wide()
	walk := tree.Walk(w, "")
	outer := 0
	for _, e := range walk {
		inner := 0
		for _, x := range walk {
			if x != w[inner] {
				t.Errorf("%d in %d: %s", inner, outer, show(x))
			}
			inner++
			if inner > outer {
				break
			}
		}
		for _, x := range tree.Walk(w, e.Path) {
			if !slowBelow(x.Path, e.Path) {
				t.Errorf("%q is not below %q", x.Path, e.Path)
			}
		}
		if e != w[outer] {
			t.Errorf("%d: %s", outer, show(e))
		}
		outer++
	}
	if outer != len(w) {
		t.Errorf("went over %d", outer)
	}
}

// R4: a walk tells what there was when it was asked for, whatever became of the tree, ahead of it and on its way.
func TestWalkTellsWhatThereWas(t *testing.T) {
	w := wide()
	walk := tree.Walk(w, "a")
	clear(w)
	if _, l := told(w, "a"); l != nil {
		t.Errorf("%s", show(l))
	}
	for range 2 {
		var l []api.Entry
		for _, e := range walk {
			l = append(l, e)
		}
		if !slices.Equal(l, wide()[1:4]) {
			t.Errorf("behind a change: %s", show(l))
		}
	}
	w = wide()
	var l []api.Entry
	for _, e := range tree.Walk(w, "") {
		l = append(l, e)
		clear(w)
	}
	if !slices.Equal(l, wide()) {
		t.Errorf("changed on the way: %s", show(l))
	}
	w = row(f("b", ""), f("a", ""))
	walk = tree.Walk(w, "")
	slices.Reverse(w)
	for name := range walk {
		t.Errorf("%q of a tree that was not right when it was asked for", name)
	}
}
