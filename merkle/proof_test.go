package merkle_test

import (
	"math/rand/v2"
	"slices"
	"testing"

	"treadle/api"
	"treadle/merkle"
)

func sameProof(a, b [][]api.Node) bool { return slices.EqualFunc(a, b, slices.Equal) }

func holdProof(t *testing.T, what string, want [][]api.Node, why api.Errno) func([][]api.Node, api.Errno) {
	return func(got [][]api.Node, e api.Errno) {
		t.Helper()
		if !sameProof(got, want) || e != why || e != api.OK && got != nil {
			t.Errorf("%s: %s, %d, not %s, %d", what, show(got), e, show(want), why)
		}
	}
}

func holdNode(t *testing.T, what string, want api.Node, why api.Errno) func(api.Node, api.Errno) {
	return func(got api.Node, e api.Errno) {
		t.Helper()
		if got != want || e != why {
			t.Errorf("%s: %s, %d, not %s, %d", what, show(got), e, show(want), why)
		}
	}
}

func proved(t *testing.T, c []api.Entry, p string) [][]api.Node {
	t.Helper()
	proof, e := merkle.Prove(c, p)
	if e != api.OK {
		t.Fatalf("Prove(%s, %q): %d", show(c), p, e)
	}
	return proof
}

// M3: the chapter's second example.
func TestProofExamples(t *testing.T) {
	m := tableOf(second())
	top, inner := m.nodes(""), m.nodes("a")
	both, one := [][]api.Node{top, inner}, [][]api.Node{top}
	root := m.digest("")
	for p, want := range map[string][][]api.Node{"a/b": both, "a/c": both, "c": one, "a/b/c": both, "a": one, "c/d/e": one, "a/b/c/d": both, "a/c/d": both} {
		holdProof(t, "Prove "+p, want, api.OK)(merkle.Prove(second(), p))
		holdNode(t, "Verify "+p, m.node(p), api.OK)(merkle.Verify(root, p, want))
	}
	holdNode(t, "Verify a/c", api.Node{}, api.OK)(merkle.Verify(root, "a/c", proved(t, second(), "a/b")))
	holdNode(t, "Verify a/b", api.Node{Name: "b", Kind: 1, Digest: slowTagged("file", []byte("x"))}, api.OK)(merkle.Verify(root, "a/b", both))
	holdNode(t, "Verify a", api.Node{Name: "a", Kind: 2, Digest: slowTagged("dir", slowPack(inner))}, api.OK)(merkle.Verify(root, "a", one))
	for _, more := range [][]api.Node{nil, {}, top, inner} {
		holdNode(t, "a list more", api.Node{}, api.ErrProof)(merkle.Verify(root, "a/b", [][]api.Node{top, inner, more}))
		holdNode(t, "a list more", api.Node{}, api.ErrProof)(merkle.Verify(root, "c", [][]api.Node{top, more}))
		holdNode(t, "a list more", api.Node{}, api.ErrProof)(merkle.Verify(root, "c/d", [][]api.Node{top, more}))
		holdNode(t, "a list more", api.Node{}, api.ErrProof)(merkle.Verify(root, "a", [][]api.Node{top, more}))
		holdNode(t, "a list more", api.Node{}, api.ErrProof)(merkle.Verify(root, "a/b/c", [][]api.Node{top, inner, more}))
	}
	holdNode(t, "a list fewer", api.Node{}, api.ErrProof)(merkle.Verify(root, "a/b", one))
	holdNode(t, "the other list", api.Node{}, api.ErrProof)(merkle.Verify(root, "a/b", [][]api.Node{inner}))
	holdNode(t, "the lists turned round", api.Node{}, api.ErrProof)(merkle.Verify(root, "a/b", [][]api.Node{inner, top}))
	holdNode(t, "no list", api.Node{}, api.ErrProof)(merkle.Verify(root, "a/b", nil))
	holdNode(t, "no list", api.Node{}, api.ErrProof)(merkle.Verify(root, "c", [][]api.Node{}))
}

// M3: of no entries at all there is one list, and it is empty.
func TestProofsOfNothing(t *testing.T) {
	none := slowTagged("dir", nil)
	for _, p := range []string{"a", "a/b", deep(32)} {
		holdProof(t, "Prove "+p, [][]api.Node{nil}, api.OK)(merkle.Prove(nil, p))
		holdNode(t, "Verify "+p, api.Node{}, api.OK)(merkle.Verify(none, p, [][]api.Node{nil}))
		holdNode(t, "Verify "+p, api.Node{}, api.OK)(merkle.Verify(none, p, [][]api.Node{{}}))
		holdNode(t, "no list", api.Node{}, api.ErrProof)(merkle.Verify(none, p, nil))
		holdNode(t, "two lists", api.Node{}, api.ErrProof)(merkle.Verify(none, p, [][]api.Node{nil, nil}))
		holdNode(t, "another root", api.Node{}, api.ErrProof)(merkle.Verify(api.Digest{}, p, [][]api.Node{nil}))
	}
}

// M3: the root, and texts that are no paths, are told ahead of what is wrong with the proof.
func TestProofsOfNoPaths(t *testing.T) {
	good := proved(t, second(), "a/b")
	root := slowDigest(second())
	for _, proof := range [][][]api.Node{good, nil, {nil}, good[:1], {badLists()[0]}} {
		for _, from := range []api.Digest{root, {}} {
			holdNode(t, "Verify of the root", api.Node{}, api.ErrRoot)(merkle.Verify(from, "", proof))
			for _, p := range noPaths() {
				holdNode(t, "Verify "+p, api.Node{}, api.ErrPath)(merkle.Verify(from, p, proof))
			}
		}
	}
	for _, c := range [][]api.Entry{nil, second(), wide()} {
		holdProof(t, "Prove of the root", nil, api.ErrRoot)(merkle.Prove(c, ""))
		for _, p := range noPaths() {
			holdProof(t, "Prove "+p, nil, api.ErrPath)(merkle.Prove(c, p))
		}
	}
}

// M3: a list that Pack refuses is none of a proof, though its bytes would hash to the digest that is asked for, or that is the zero one, as Dir's is beside its error.
func TestProofsOfRefusedLists(t *testing.T) {
	for _, list := range badLists() {
		for _, root := range []api.Digest{slowTagged("dir", slowPack(list)), {}} {
			for _, p := range []string{"a", "b", "a/b", "zz"} {
				holdNode(t, "Verify "+p+" of "+show(list), api.Node{}, api.ErrProof)(merkle.Verify(root, p, [][]api.Node{list}))
			}
			top := nodes(api.Node{Name: "a", Kind: 2, Digest: root})
			for _, p := range []string{"a/a", "a/b", "a/b/c"} {
				holdNode(t, "Verify "+p+" of "+show(list), api.Node{}, api.ErrProof)(merkle.Verify(slowTagged("dir", slowPack(top)), p, [][]api.Node{top, list}))
			}
		}
	}
}

// M3: a way goes on through a directory alone, though another kind's digest would be that of the next list.
func TestProofsThroughNoDirectory(t *testing.T) {
	inner := nodes(node("b", 1))
	below := slowTagged("dir", slowPack(inner))
	for kind := 1; kind <= 3; kind++ {
		top := nodes(api.Node{Name: "a", Kind: kind, Digest: below})
		root := slowTagged("dir", slowPack(top))
		want, why := inner[0], api.OK
		if kind != api.KindDir {
			want, why = api.Node{}, api.ErrProof
		}
		holdNode(t, "two lists", want, why)(merkle.Verify(root, "a/b", [][]api.Node{top, inner}))
		want, why = api.Node{}, api.OK
		if kind == api.KindDir {
			why = api.ErrProof
		}
		holdNode(t, "one list", want, why)(merkle.Verify(root, "a/b", [][]api.Node{top}))
		holdNode(t, "the last name", top[0], api.OK)(merkle.Verify(root, "a", [][]api.Node{top}))
	}
}

// M3: Prove of every path of great trees, and of paths beside and below them.
func TestProofs(t *testing.T) {
	for _, c := range append(rightTrees(), files("n", 1024, 0)) {
		m := tableOf(c)
		root := m.digest("")
		paths := []string{"A", "a", "a/b", "a/b/c", "b", "n0000", "n0500", "n0500/a", "n1023", "zz", "zz/a", deep(31), deep(32), deep(31) + "/b", long(64)}
		for _, e := range c[:min(len(c), 40)] {
			paths = append(paths, e.Path)
		}
		for _, p := range paths {
			want, why := slowProve(c, p)
			proof, e := merkle.Prove(c, p)
			holdProof(t, "Prove "+p+" of "+show(c), want, why)(proof, e)
			holdNode(t, "Verify "+p+" of "+show(c), m.node(p), api.OK)(merkle.Verify(root, p, proof))
		}
	}
}

// spoilt is a proof to which something happened, and at times nothing.
func spoilt(r *rand.Rand, proof [][]api.Node) [][]api.Node {
	var out [][]api.Node
	for _, list := range proof {
		out = append(out, slices.Clone(list))
	}
	i := r.IntN(len(out))
	if len(out[i]) == 0 {
		return append(out, nil)
	}
	j := r.IntN(len(out[i]))
	n := &out[i][j]
	switch r.IntN(12) {
	case 0:
		n.Digest[r.IntN(32)] ^= 1 << r.IntN(8)
	case 1:
		n.Kind = r.IntN(5)
	case 2:
		n.Name = []string{"a", "b", "ab", "", "zz"}[r.IntN(5)]
	case 3:
		out[i] = slices.Delete(out[i], j, j+1)
	case 4:
		out[i] = slices.Insert(out[i], j, someNodes(r)...)
	case 5:
		out = slices.Delete(out, i, i+1)
	case 6:
		out = slices.Insert(out, i, out[i])
	case 7:
		out = append(out, out[i])
	case 8:
		out = append(out, nil)
	case 9:
		k := r.IntN(len(out))
		out[i], out[k] = out[k], out[i]
	case 10:
		out[i][j], out[i][0] = out[i][0], out[i][j]
	}
	return out
}

// M3, M7: Prove and Verify against the chapter's own words; and whatever Verify takes, it tells what stands there.
func TestProofsAtRandom(t *testing.T) {
	r := source()
	met, told := map[api.Errno]int{}, map[bool]int{}
	for range 20000 {
		c := someRow(r)
		p, q := someAsked(r, c), someAsked(r, c)
		want, why := slowProve(c, p)
		proof, e := merkle.Prove(c, p)
		holdProof(t, "Prove "+p+" of "+show(c), want, why)(proof, e)
		met[why]++
		if e != api.OK || t.Failed() {
			continue
		}
		m := tableOf(c)
		root := m.digest("")
		holdNode(t, "Verify "+p+" of "+show(c), m.node(p), api.OK)(merkle.Verify(root, p, proof))
		other := spoilt(r, proof)
		for _, asked := range []string{p, q} {
			n, why := slowVerify(root, asked, other)
			got, e := merkle.Verify(root, asked, other)
			holdNode(t, "Verify "+asked+" by "+show(other), n, why)(got, e)
			if e == api.OK && got != m.node(asked) {
				t.Fatalf("Verify(%q) tells %s of %s", asked, show(got), show(c))
			}
			met[why]++
			told[e == api.OK && got != (api.Node{})]++
		}
	}
	for _, e := range []api.Errno{api.OK, api.ErrPath, api.ErrRoot, api.ErrProof, api.ErrOrder, api.ErrParent, api.ErrKind} {
		if met[e] < 50 {
			t.Errorf("error %d was met %d times", e, met[e])
		}
	}
	if told[true] < 500 {
		t.Errorf("%d nodes were told", told[true])
	}
}

// M3, M7: each bit of each digest of a proof turned, and each bit of the root's: it is no proof any more.
func TestTurnedDigests(t *testing.T) {
	c := wide()
	root := slowDigest(c)
	for _, p := range []string{"a/a/b", "a/b/c", "ab/a/a/z", "b/a", "zz"} {
		proof := proved(t, c, p)
		for i := range proof {
			for j := range proof[i] {
				for bit := range 256 {
					proof[i][j].Digest[bit/8] ^= 1 << (bit % 8)
					holdNode(t, "Verify "+p, api.Node{}, api.ErrProof)(merkle.Verify(root, p, proof))
					proof[i][j].Digest[bit/8] ^= 1 << (bit % 8)
				}
			}
		}
		for bit := range 256 {
			turned := root
			turned[bit/8] ^= 1 << (bit % 8)
			holdNode(t, "Verify "+p, api.Node{}, api.ErrProof)(merkle.Verify(turned, p, proof))
		}
		holdNode(t, "Verify "+p, tableOf(c).node(p), api.OK)(merkle.Verify(root, p, proof))
	}
}

// M7: a proof of one tree is none for another one's digest, where the directories on its way are unlike.
func TestProofsOfOtherTrees(t *testing.T) {
	r := source()
	taken, refused := 0, 0
	for range 3000 {
		a := someTree(r)
		b := someNeighbour(r, a)
		p := somePath(r)
		want, e := slowProve(b, p)
		if e != api.OK {
			continue
		}
		proof := proved(t, a, p)
		got, e := merkle.Verify(slowDigest(b), p, proof)
		if sameProof(want, proof) {
			holdNode(t, "Verify "+p, tableOf(b).node(p), api.OK)(got, e)
			taken++
		} else {
			holdNode(t, "Verify "+p, api.Node{}, api.ErrProof)(got, e)
			refused++
		}
	}
	if taken < 100 || refused < 100 {
		t.Errorf("%d taken, %d refused", taken, refused)
	}
}
