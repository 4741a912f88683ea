package merkle_test

import (
	"slices"
	"strings"
	"testing"

	"treadle/api"
	"treadle/merkle"
	"treadle/sha"
	"treadle/tree"
)

func holdDigest(t *testing.T, what string, want api.Digest, why api.Errno) func(api.Digest, api.Errno) {
	return func(got api.Digest, e api.Errno) {
		t.Helper()
		if got != want || e != why {
			t.Errorf("%s: %s, %d, not %s, %d", what, sha.Hex(got), e, sha.Hex(want), why)
		}
	}
}

func holdNodes(t *testing.T, what string, want []api.Node, why api.Errno) func([]api.Node, api.Errno) {
	return func(got []api.Node, e api.Errno) {
		t.Helper()
		if !slices.Equal(got, want) || e != why || e != api.OK && got != nil {
			t.Errorf("%s: %s, %d, not %s, %d", what, show(got), e, show(want), why)
		}
	}
}

// M2: digests that were reckoned by another program.
func TestDigestExamples(t *testing.T) {
	for _, c := range []struct {
		t    []api.Entry
		p    string
		want string
	}{
		{nil, "", "5ccd39ebf23517fa38d903162eb360e863cf9ddc0bd09d68d7f1a6458820f29f"},
		{row(), "", "5ccd39ebf23517fa38d903162eb360e863cf9ddc0bd09d68d7f1a6458820f29f"},
		{second(), "", "b199e05ff13efff515b56fc427e5e75ba82b1abffb9c1aad279f3d05c64c781b"},
		{second(), "a", "3a3907697c3c2ff97948d7dfd2abfc675f99cd152416a1635f6d7cc7942816d6"},
		{second(), "a/b", "bc9b9c771155f4135d8add03278c13273f05114a3ec14ee8181a941d116d7e81"},
		{wide(), "a-b", "6dd49c37ae275de754f1a59160248e2b3e6a40939c693fb98f19cd2ffff356ab"},
		{wide(), "b", "5ccd39ebf23517fa38d903162eb360e863cf9ddc0bd09d68d7f1a6458820f29f"},
	} {
		got, e := merkle.Of(c.t, c.p)
		if sha.Hex(got) != c.want || e != api.OK {
			t.Errorf("Of(%s, %q): %s, %d", show(c.t), c.p, sha.Hex(got), e)
		}
		if c.p == "" {
			holdDigest(t, "Digest", got, api.OK)(merkle.Digest(c.t))
		}
	}
	none, _ := sha.Tagged("dir", nil)
	holdDigest(t, "Digest of no entries", none, api.OK)(merkle.Digest(nil))
}

// M2: Nodes, Digest and Of at every path of trees, the greatest that may be among them, against the chapter's own words.
func TestDigests(t *testing.T) {
	for _, c := range rightTrees() {
		m := tableOf(c)
		holdDigest(t, "Digest of "+show(c), m.digest(""), api.OK)(merkle.Digest(c))
		for i, e := range append(row(d("")), c...) {
			if i > 40 && i < len(c)-3 {
				continue
			}
			holdDigest(t, "Of "+e.Path+" of "+show(c), m.digest(e.Path), api.OK)(merkle.Of(c, e.Path))
			if e.Kind == api.KindDir {
				holdNodes(t, "Nodes "+e.Path+" of "+show(c), m.nodes(e.Path), api.OK)(merkle.Nodes(c, e.Path))
			} else {
				holdNodes(t, "Nodes "+e.Path+" of "+show(c), nil, api.ErrFile)(merkle.Nodes(c, e.Path))
				holdDigest(t, "Leaf of "+e.Path, m.digest(e.Path), api.OK)(merkle.Leaf(e))
			}
		}
	}
}

// M2: a directory's nodes, as they rise.
func TestNodes(t *testing.T) {
	x, link, none := slowTagged("file", []byte("x")), slowTagged("link", []byte("a/b")), slowTagged("dir", nil)
	w := tableOf(wide())
	holdNodes(t, "Nodes of the root", nodes(
		api.Node{Name: "A", Kind: 1, Digest: slowTagged("file", nil)}, api.Node{Name: "a", Kind: 2, Digest: w.digest("a")}, api.Node{Name: "a-", Kind: 1, Digest: x},
		api.Node{Name: "a-b", Kind: 3, Digest: link}, api.Node{Name: "ab", Kind: 2, Digest: w.digest("ab")}, api.Node{Name: "b", Kind: 2, Digest: none},
	), api.OK)(merkle.Nodes(wide(), ""))
	holdNodes(t, "Nodes of a", nodes(
		api.Node{Name: "a", Kind: 2, Digest: w.digest("a/a")}, api.Node{Name: "b", Kind: 1, Digest: x}, api.Node{Name: "c", Kind: 2, Digest: none},
	), api.OK)(merkle.Nodes(wide(), "a"))
	holdNodes(t, "Nodes of b", nil, api.OK)(merkle.Nodes(wide(), "b"))
	holdNodes(t, "Nodes of nothing at all", nil, api.OK)(merkle.Nodes(nil, ""))
}

// M2: paths at which nothing stands, which go on below a file or a link, and which are none.
func TestNothingThere(t *testing.T) {
	for _, p := range []string{"B", "a/d", "a/b/c", "a-b/a", "a-b/b", "c", "ab/a/a/z/z", "a/a/a", "aa", "a.", deep(32)} {
		holdDigest(t, "Of "+p, api.Digest{}, api.ErrNone)(merkle.Of(wide(), p))
		holdNodes(t, "Nodes "+p, nil, api.ErrNone)(merkle.Nodes(wide(), p))
		holdDigest(t, "Of "+p+" of nothing", api.Digest{}, api.ErrNone)(merkle.Of(nil, p))
		holdNodes(t, "Nodes "+p+" of nothing", nil, api.ErrNone)(merkle.Nodes(nil, p))
	}
	for _, p := range noPaths() {
		holdDigest(t, "Of "+p, api.Digest{}, api.ErrPath)(merkle.Of(wide(), p))
		holdNodes(t, "Nodes "+p, nil, api.ErrPath)(merkle.Nodes(wide(), p))
	}
	for _, p := range []string{"A", "a/b", "a-b", "a/a/c"} {
		holdNodes(t, "Nodes "+p, nil, api.ErrFile)(merkle.Nodes(wide(), p))
	}
}

// M1 to M4: what is wrong with a tree is told ahead of all else.
func TestWrongTreesEverywhere(t *testing.T) {
	for _, c := range wrongTrees() {
		paths := []string{"", "a", "a/b", "a b", "/", deep(33)}
		for _, p := range append(paths, c.t[0].Path) {
			holdDigest(t, "Of", api.Digest{}, c.e)(merkle.Of(c.t, p))
			holdNodes(t, "Nodes", nil, c.e)(merkle.Nodes(c.t, p))
			holdProof(t, "Prove", nil, c.e)(merkle.Prove(c.t, p))
		}
		holdDigest(t, "Digest", api.Digest{}, c.e)(merkle.Digest(c.t))
		holdDiffer(t, "Differ", nil, 0, c.e)(merkle.Differ(c.t, second()))
		holdDiffer(t, "Differ", nil, 0, c.e)(merkle.Differ(second(), c.t))
		holdDiffer(t, "Differ", nil, 0, c.e)(merkle.Differ(c.t, c.t))
	}
}

// M2: Nodes, Digest and Of against the chapter's own words.
func TestDigestsAtRandom(t *testing.T) {
	r := source()
	met := map[api.Errno]int{}
	for range 10000 {
		c := someRow(r)
		p := someAsked(r, c)
		what := "of " + show(c) + " at " + p
		want, why := slowOf(c, p)
		holdDigest(t, "Of "+what, want, why)(merkle.Of(c, p))
		met[why]++
		list, why := slowNodes(c, p)
		holdNodes(t, "Nodes "+what, list, why)(merkle.Nodes(c, p))
		met[why]++
		want, why = slowOf(c, "")
		holdDigest(t, "Digest "+what, want, why)(merkle.Digest(c))
		if t.Failed() {
			return
		}
	}
	for _, e := range []api.Errno{api.OK, api.ErrPath, api.ErrNone, api.ErrFile, api.ErrKind, api.ErrOrder, api.ErrParent} {
		if met[e] < 50 {
			t.Errorf("error %d was met %d times", e, met[e])
		}
	}
}

// M2: what Nodes tells is what Dir and Of make of it.
func TestNodesAndDigestsAgree(t *testing.T) {
	for _, c := range append(rightTrees()[:15], files("n", 1024, 0)) {
		for _, dir := range tableOf(c).dirs() {
			list, e := merkle.Nodes(c, dir)
			want, _ := merkle.Of(c, dir)
			if e != api.OK {
				t.Errorf("Nodes(%q): %d", dir, e)
			}
			holdDigest(t, "Dir of Nodes", want, api.OK)(merkle.Dir(list...))
			for i, n := range list {
				if i < 50 {
					holdDigest(t, "Of a node", n.Digest, api.OK)(merkle.Of(c, strings.TrimPrefix(dir+"/"+n.Name, "/")))
				}
			}
			sub, _ := tree.Sub(c, dir)
			holdDigest(t, "Digest of Sub", want, api.OK)(merkle.Digest(sub))
		}
	}
}

// smallTrees are all right trees of at most so many entries out of a choice in which most are like another one.
func smallTrees(most int) [][]api.Entry {
	x := slowTagged("file", []byte("x"))
	inner := "\x01a\x01" + string(x[:])
	choice := row(
		d("a"), f("a", ""), f("a", "x"), l("a", "x"), f("a", "a"), f("a", inner), f("a", string(x[:])), l("a", inner),
		d("a/a"), f("a/a", ""), f("a/a", "x"), f("a/b", "x"), d("a/a/a"), f("a/a/a", "x"),
		d("aa"), f("aa", "x"), f("aa", ""), d("b"), f("b", "x"), l("b", "x"), f("b", ""), f("b/a", "x"), f("b/a", ""),
	)
	var out [][]api.Entry
	var grow func(t []api.Entry, from int)
	grow = func(t []api.Entry, from int) {
		if _, e := tree.Check(t); e == api.OK {
			out = append(out, slices.Clone(t))
		}
		if len(t) == most {
			return
		}
		for i := from; i < len(choice); i++ {
			grow(append(slices.Clone(t), choice[i]), i+1)
		}
	}
	grow(nil, 0)
	return out
}

// M6: trees that are not one have not one digest.
func TestDigestsNameTrees(t *testing.T) {
	seen := map[api.Digest][]api.Entry{}
	trees := append(smallTrees(5), rightTrees()[2:]...)
	r := source()
	for range 5000 {
		trees = append(trees, someTree(r))
	}
	for _, c := range trees {
		got, e := merkle.Digest(c)
		if e != api.OK {
			t.Fatalf("Digest(%s): %d", show(c), e)
		}
		if other, there := seen[got]; there && !slices.Equal(other, c) {
			t.Fatalf("%s and %s have one digest", show(c), show(other))
		}
		seen[got] = c
	}
	if len(seen) < 1000 {
		t.Errorf("%d trees", len(seen))
	}
}

// M8: a digest does not hang on how a tree came to be.
func TestDigestOfOneTree(t *testing.T) {
	r := source()
	for range 300 {
		c := someTree(r)
		want, _ := merkle.Digest(c)
		mixed := slices.Clone(c)
		r.Shuffle(len(mixed), func(i, j int) { mixed[i], mixed[j] = mixed[j], mixed[i] })
		made, _ := tree.Make(mixed...)
		b, _ := merkle.Bytes(c)
		back, _ := merkle.Read(b)
		room := roomy(c, f("zz", "spare"))
		for _, same := range [][]api.Entry{made, back, room, c} {
			holdDigest(t, "Digest of the same tree", want, api.OK)(merkle.Digest(same))
		}
	}
	mixed := files("n", 1024, 3)
	want, _ := merkle.Digest(mixed)
	r.Shuffle(len(mixed), func(i, j int) { mixed[i], mixed[j] = mixed[j], mixed[i] })
	made, _ := tree.Make(mixed...)
	holdDigest(t, "Digest of 1024 entries", want, api.OK)(merkle.Digest(made))
}

// M8: a change at one path turns the digests of the directories above it, and of no other.
func TestChangeTurnsWhatIsAbove(t *testing.T) {
	r := source()
	turned := 0
	for range 1500 {
		a := append(someTree(r), f("zz", ""))
		e := someEntry(r)
		b, why := tree.Put(a, e)
		if old, there := tree.Find(a, e.Path); why != api.OK || there && old == e {
			continue
		}
		holdTurned(t, a, b, e.Path)
		holdTurned(t, b, a, e.Path)
		turned++
	}
	if turned < 200 {
		t.Errorf("%d changes", turned)
	}
	a := files("n", 1024, 1)
	b := slices.Clone(a)
	b[777].Data = "y"
	holdTurned(t, a, b, b[777].Path)
	deepest := append(deepDirs(31), f(deep(32), "x"))
	other, _ := tree.Put(deepest, f(deep(32), ""))
	holdTurned(t, deepest, other, deep(32))
}

func holdTurned(t *testing.T, a, b []api.Entry, p string) {
	t.Helper()
	for _, dir := range tableOf(a).dirs() {
		x, _ := merkle.Of(a, dir)
		y, e := merkle.Of(b, dir)
		if dir == p || e != api.OK {
			continue
		}
		above := dir == "" || strings.HasPrefix(p, dir+"/")
		if (x != y) != above {
			t.Fatalf("a change at %q from %s to %s: the digest of %q", p, show(a), show(b), dir)
		}
	}
}
