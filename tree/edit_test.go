package tree_test

import (
	"slices"
	"strings"
	"testing"

	"treadle/api"
	"treadle/tree"
)

// P5.4: an entry is put at its place, or in the place of what stood there.
func TestPut(t *testing.T) {
	for _, c := range []struct {
		t    []api.Entry
		e    api.Entry
		want []api.Entry
	}{
		{nil, f("a", "x"), row(f("a", "x"))},
		{nil, d("a"), row(d("a"))},
		{nil, l("a", "a"), row(l("a", "a"))},
		{third(), l("a/b", "c"), row(d("a"), l("a/b", "c"), l("a/c", "b"))},
		{third(), f("a/b", "x"), third()},
		{third(), f("a/b", ""), row(d("a"), f("a/b", ""), l("a/c", "b"))},
		{third(), f("a/c", "y"), row(d("a"), f("a/b", "x"), f("a/c", "y"))},
		{third(), d("a"), third()},
		{third(), d("a/a"), row(d("a"), d("a/a"), f("a/b", "x"), l("a/c", "b"))},
		{third(), d("a/d"), row(d("a"), f("a/b", "x"), l("a/c", "b"), d("a/d"))},
		{third(), f("a-b", "y"), row(d("a"), f("a/b", "x"), l("a/c", "b"), f("a-b", "y"))},
		{third(), f("A", "y"), row(f("A", "y"), d("a"), f("a/b", "x"), l("a/c", "b"))},
		{deepDirs(31), f(deep(32), "x"), append(deepDirs(31), f(deep(32), "x"))},
		{files("n", 1023, 0), f("z", ""), append(files("n", 1023, 0), f("z", ""))},
		{whole("n"), d("o"), append(whole("n"), d("o"))},
		{whole("n")[1:], f("n0000", long(65536)), whole("n")},
	} {
		holdTree(t, "Put("+show(c.t)+", "+show(c.e)+")", c.want, api.OK)(tree.Put(c.t, c.e))
	}
}

// P5.4: a full tree takes an entry in the place of another one.
func TestPutInPlace(t *testing.T) {
	full := files("n", 1024, 1024)
	want := slices.Clone(full)
	want[500] = l("n0500", long(1024))
	holdTree(t, "Put", want, api.OK)(tree.Put(full, want[500]))
	want[500] = f("n0500", "")
	holdTree(t, "Put", want, api.OK)(tree.Put(full, want[500]))
	holdError(t, "Put of a byte more", api.ErrBig)(tree.Put(full, f("n0500", long(1025))))
	holdError(t, "Put of an entry more", api.ErrMany)(tree.Put(full, d("o")))
}

// P5.4: what Put refuses, and the first of several reasons.
func TestPutWrong(t *testing.T) {
	brim := append(row(d("a"), f("b", "")), files("n", 16, 65536)...)
	full := append(row(d("a"), f("b", "")), files("n", 1022, 1024)...)
	for _, c := range []struct {
		t []api.Entry
		e api.Entry
		w api.Errno
	}{
		{third(), d("a/b"), api.ErrThere},
		{third(), d("a/c"), api.ErrThere},
		{third(), f("a", "x"), api.ErrThere},
		{third(), l("a", "x"), api.ErrThere},
		{row(d("a")), f("a", ""), api.ErrThere},
		{third(), f("b/c", "x"), api.ErrParent},
		{third(), f("a/b/c", "x"), api.ErrParent},
		{third(), f("a/c/d", "x"), api.ErrParent},
		{third(), d("a/d/e"), api.ErrParent},
		{nil, f("a/b", "x"), api.ErrParent},
		{full, d("c"), api.ErrMany},
		{full, f("b", long(2048)), api.OK},
		{full, f("b", long(2049)), api.ErrBig},
		{full, f("c", long(2049)), api.ErrMany},
		{full, f("a", long(2049)), api.ErrThere},
		{full, d("b"), api.ErrThere},
		{full, f("b/c", long(2049)), api.ErrParent},
		{full, f("b/", long(2049)), api.ErrKind},
		{full, f("b/c", long(65537)), api.ErrKind},
		{brim, f("c", "x"), api.ErrBig},
		{brim, l("b", "x"), api.ErrBig},
		{brim, f("c", ""), api.OK},
		{brim, l("a", "x"), api.ErrThere},
		{brim, l("c/d", "x"), api.ErrParent},
	} {
		if got, e := tree.Put(c.t, c.e); e != c.w || e != api.OK && got != nil {
			t.Errorf("Put(%s, %s): %d, not %d", show(c.t), show(c.e), e, c.w)
		}
	}
	for _, e := range noEntries() {
		holdError(t, "Put "+show(e), api.ErrKind)(tree.Put(third(), e))
		holdError(t, "Put "+show(e), api.ErrKind)(tree.Put(full, e))
	}
}

// P5.4: what stands at a path goes, with all below it.
func TestRemove(t *testing.T) {
	w := wide()
	for _, c := range []struct {
		t    []api.Entry
		p    string
		want []api.Entry
		e    api.Errno
	}{
		{third(), "a", nil, api.OK},
		{third(), "a/b", row(d("a"), l("a/c", "b")), api.OK},
		{third(), "a/c", row(d("a"), f("a/b", "x")), api.OK},
		{third(), "b", nil, api.ErrNone},
		{third(), "a/b/c", nil, api.ErrNone},
		{third(), "", nil, api.ErrNone},
		{nil, "", nil, api.ErrNone},
		{nil, "a", nil, api.ErrNone},
		{third(), "a/", nil, api.ErrPath},
		{w, "a", w[4:], api.OK},
		{w, "a/a", slices.Concat(w[:1], w[3:]), api.OK},
		{w, "a-", slices.Concat(w[:4], w[6:]), api.OK},
		{w, "a-b", slices.Concat(w[:6], w[7:]), api.OK},
		{w, "ab", slices.Concat(w[:8], w[9:]), api.OK},
		{w, "b", w[:9], api.OK},
		{w, "b/b", w[:12], api.OK},
		{deepDirs(32), deep(3), deepDirs(2), api.OK},
	} {
		holdTree(t, "Remove("+show(c.t)+", "+c.p+")", c.want, c.e)(tree.Remove(c.t, c.p))
	}
	for _, p := range noPaths() {
		holdError(t, "Remove "+p, api.ErrPath)(tree.Remove(third(), p))
		holdError(t, "Remove "+p, api.ErrPath)(tree.Remove(nil, p))
	}
}

// P5.5: what stands below a directory, without its names.
func TestSub(t *testing.T) {
	for _, c := range []struct {
		t    []api.Entry
		dir  string
		want []api.Entry
		e    api.Errno
	}{
		{third(), "a", row(f("b", "x"), l("c", "b")), api.OK},
		{third(), "", third(), api.OK},
		{third(), "a/b", nil, api.ErrFile},
		{third(), "a/c", nil, api.ErrFile},
		{third(), "b", nil, api.ErrNone},
		{third(), "a/b/c", nil, api.ErrNone},
		{third(), "a/", nil, api.ErrPath},
		{nil, "", nil, api.OK},
		{nil, "a", nil, api.ErrNone},
		{wide(), "a", row(d("a"), f("a/a", "1"), f("b", "")), api.OK},
		{wide(), "a/a", row(f("a", "1")), api.OK},
		{wide(), "ab", nil, api.OK},
		{wide(), "b", row(d("a"), l("a/a", "x"), d("b")), api.OK},
		{deepDirs(32), deep(2), deepDirs(30), api.OK},
		{deepDirs(32), deep(32), nil, api.OK},
	} {
		holdTree(t, "Sub("+show(c.t)+", "+c.dir+")", c.want, c.e)(tree.Sub(c.t, c.dir))
	}
	for _, p := range noPaths() {
		holdError(t, "Sub "+p, api.ErrPath)(tree.Sub(third(), p))
	}
}

// P5.5: what stands below a directory is replaced.
func TestGraft(t *testing.T) {
	w := wide()
	few := row(d("a"), f("a/b", "q"), l("z", "a"))
	for _, c := range []struct {
		t    []api.Entry
		dir  string
		s    []api.Entry
		want []api.Entry
		e    api.Errno
	}{
		{third(), "a", row(f("z", "")), row(d("a"), f("a/z", "")), api.OK},
		{third(), "a", nil, row(d("a")), api.OK},
		{third(), "", few, few, api.OK},
		{third(), "", nil, nil, api.OK},
		{nil, "", few, few, api.OK},
		{nil, "", nil, nil, api.OK},
		{w, "a", few, slices.Concat(w[:1], row(d("a/a"), f("a/a/b", "q"), l("a/z", "a")), w[4:]), api.OK},
		{w, "ab", few, slices.Concat(w[:9], row(d("ab/a"), f("ab/a/b", "q"), l("ab/z", "a")), w[9:]), api.OK},
		{w, "b/b", few, slices.Concat(w, row(d("b/b/a"), f("b/b/a/b", "q"), l("b/b/z", "a"))), api.OK},
		{w, "b", few, slices.Concat(w[:10], row(d("b/a"), f("b/a/b", "q"), l("b/z", "a"))), api.OK},
		{third(), "a/b", few, nil, api.ErrFile},
		{third(), "a/c", few, nil, api.ErrFile},
		{third(), "b", few, nil, api.ErrNone},
		{third(), "a/b/c", nil, nil, api.ErrNone},
		{third(), "a/", few, nil, api.ErrPath},
	} {
		holdTree(t, "Graft("+show(c.t)+", "+c.dir+")", c.want, c.e)(tree.Graft(c.t, c.dir, c.s))
	}
	for _, p := range noPaths() {
		holdError(t, "Graft "+p, api.ErrPath)(tree.Graft(third(), p, few))
	}
}

// P5.5: paths of 32 names and of one more.
func TestGraftDeep(t *testing.T) {
	holdTree(t, "Graft", deepDirs(32), api.OK)(tree.Graft(deepDirs(31), deep(31), row(d("a"))))
	holdTree(t, "Graft", deepDirs(32), api.OK)(tree.Graft(row(d("a")), "a", deepDirs(31)))
	holdError(t, "Graft", api.ErrDeep)(tree.Graft(row(d("a")), "a", deepDirs(32)))
	holdError(t, "Graft", api.ErrDeep)(tree.Graft(deepDirs(31), deep(31), deepDirs(2)))
	holdError(t, "Graft", api.ErrDeep)(tree.Graft(deepDirs(32), deep(32), row(f("b", ""))))
	holdTree(t, "Graft", deepDirs(32), api.OK)(tree.Graft(deepDirs(32), deep(32), nil))
	holdTree(t, "Graft", deepDirs(32), api.OK)(tree.Graft(nil, "", deepDirs(32)))
	names := slices.Repeat([]string{long(64)}, 16)
	half, e := tree.Make(d(strings.Join(names, "/")))
	if e != api.OK {
		t.Fatal(e)
	}
	both, e := tree.Graft(half, half[15].Path, half)
	if e != api.OK || len(both) != 32 || both[31].Path != half[15].Path+"/"+half[15].Path {
		t.Errorf("Graft of long names: %s, %d", show(both), e)
	}
}

// P5.5: what would be too much, and the first of several reasons; what is replaced does not count.
func TestGraftTooMuch(t *testing.T) {
	holder := append(row(d("a"), f("a/b", "xyz")), files("n", 510, 1024)...) // 512 entries, with 510 times 1024 bytes outside of a
	bytes := 1<<20 - 510*1024
	at := append(files("k", 8, 65536), f("z", long(bytes-8*65536)))
	over := append(files("k", 8, 65536), f("z", long(bytes-8*65536+1)))
	for _, c := range []struct {
		t   []api.Entry
		dir string
		s   []api.Entry
		e   api.Errno
	}{
		{holder, "a", files("k", 513, 0), api.OK},
		{holder, "a", files("k", 514, 0), api.ErrMany},
		{holder, "a", at, api.OK},
		{holder, "a", over, api.ErrBig},
		{holder, "a", files("k", 514, 2000), api.ErrMany},
		{holder, "a", whole("k"), api.ErrBig},
		{holder, "", whole("k"), api.OK},
		{holder, "", files("k", 1024, 1024), api.OK},
		{holder, "a", append(deepDirs(32), files("k", 600, 1500)...), api.ErrDeep},
		{holder, "a", append(deepDirs(32), whole("k")...), api.ErrDeep},
		{holder, "b", append(deepDirs(32), files("k", 600, 1500)...), api.ErrNone},
		{holder, "a/b", append(deepDirs(32), files("k", 600, 1500)...), api.ErrFile},
		{holder, "a/b/", append(deepDirs(32), files("k", 600, 1500)...), api.ErrPath},
	} {
		want, why := slowGraft(c.t, c.dir, c.s)
		if why != c.e {
			t.Fatalf("Graft at %q: the words say %d, the table %d", c.dir, why, c.e)
		}
		holdTree(t, "Graft at "+c.dir, want, why)(tree.Graft(c.t, c.dir, c.s))
	}
}

// P5.4, P5.5: all edits against the chapter's own words; whatever is answered is right.
func TestEditsAtRandom(t *testing.T) {
	r := source()
	met := map[api.Errno]int{}
	for range 4000 {
		a, s, e := someRow(r), someRow(r), someEntry(r)
		p := someDir(r, a)
		if r.IntN(3) == 0 && p != "" {
			e.Path = p
		}
		hold := func(what string, want []api.Entry, why api.Errno) func([]api.Entry, api.Errno) {
			met[why]++
			return func(got []api.Entry, e api.Errno) {
				t.Helper()
				holdTree(t, what+" of "+show(a)+" at "+p, want, why)(got, e)
				if _, e := tree.Check(got); e != api.OK {
					t.Fatalf("%s: %s is not right", what, show(got))
				}
			}
		}
		want, why := slowPut(a, e)
		hold("Put "+show(e), want, why)(tree.Put(a, e))
		want, why = slowRemove(a, p)
		hold("Remove", want, why)(tree.Remove(a, p))
		want, why = slowSub(a, p)
		hold("Sub", want, why)(tree.Sub(a, p))
		want, why = slowGraft(a, p, s)
		hold("Graft "+show(s), want, why)(tree.Graft(a, p, s))
	}
	for _, e := range []api.Errno{api.OK, api.ErrKind, api.ErrOrder, api.ErrParent, api.ErrThere, api.ErrPath, api.ErrNone, api.ErrFile} {
		if met[e] < 100 {
			t.Errorf("error %d was met %d times", e, met[e])
		}
	}
}

// P5.9: a tree grafted where it was cut is the tree; and what is grafted can be cut out again.
func TestGraftAndSub(t *testing.T) {
	r := source()
	answered := 0
	for range 5000 {
		a, s := someTree(r), someTree(r)
		dir := someDir(r, a)
		cut, e := tree.Sub(a, dir)
		if e != api.OK {
			continue
		}
		answered++
		holdTree(t, "Graft of Sub", a, api.OK)(tree.Graft(a, dir, cut))
		if b, e := tree.Graft(a, dir, s); e == api.OK {
			holdTree(t, "Sub of Graft", s, api.OK)(tree.Sub(b, dir))
		} else if e != api.ErrDeep {
			t.Errorf("Graft: %d", e)
		}
	}
	if answered < 1000 {
		t.Errorf("only %d answered", answered)
	}
}

// P5.10: behind Put Find tells the entry, and all else is as it was.
func TestPutAndFind(t *testing.T) {
	r := source()
	answered := 0
	for range 5000 {
		a, e := someTree(r), someEntry(r)
		b, why := tree.Put(a, e)
		if why != api.OK {
			continue
		}
		answered++
		if got, there := tree.Find(b, e.Path); got != e || !there {
			t.Fatalf("Find behind Put: %s, not %s", show(got), show(e))
		}
		other := func(x api.Entry) bool { return x.Path == e.Path }
		if left := slices.DeleteFunc(slices.Clone(a), other); !slices.Equal(slices.DeleteFunc(b, other), left) {
			t.Fatalf("Put(%s, %s) changed another entry", show(a), show(e))
		}
	}
	if answered < 1000 {
		t.Errorf("only %d answered", answered)
	}
}

// P5.10: behind Remove nothing of the path and below is there, and all else is as it was.
func TestRemoveAndFind(t *testing.T) {
	r := source()
	answered := 0
	for range 5000 {
		a := someTree(r)
		p := someDir(r, a)
		b, why := tree.Remove(a, p)
		if why != api.OK {
			continue
		}
		answered++
		for _, e := range a {
			got, there := tree.Find(b, e.Path)
			if gone := e.Path == p || slowBelow(e.Path, p); gone && there || !gone && got != e {
				t.Fatalf("Remove(%s, %q): %q is %s", show(a), p, e.Path, show(got))
			}
		}
		if _, there := tree.Find(b, p); there {
			t.Fatalf("Remove(%s, %q) left it", show(a), p)
		}
	}
	if answered < 1000 {
		t.Errorf("only %d answered", answered)
	}
}
