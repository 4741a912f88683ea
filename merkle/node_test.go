package merkle_test

import (
	"bytes"
	"math/rand/v2"
	"slices"
	"testing"

	"treadle/api"
	"treadle/merkle"
	"treadle/sha"
)

func digestOf(n byte) api.Digest {
	var d api.Digest
	for i := range d {
		d[i] = n + byte(i)
	}
	return d
}

func node(name string, kind int) api.Node {
	return api.Node{Name: name, Kind: kind, Digest: digestOf(byte(kind * 40))}
}

func nodes(n ...api.Node) []api.Node { return n }

// goodLists are lists of nodes that Pack takes.
func goodLists() [][]api.Node {
	var many []api.Node
	for i, e := range files("n", 2000, 0) {
		many = append(many, node(e.Path, 1+i%3))
	}
	return [][]api.Node{
		nil, {},
		nodes(node("a", 1)), nodes(node("a", 2)), nodes(node("a", 3)), nodes(api.Node{Name: "a", Kind: 1}),
		nodes(node("a", 1), node("b", 1)), nodes(node("a", 2), node("a-", 1), node("a.", 3), node("ab", 2), node("b", 1)),
		nodes(node("-", 1), node("...", 1), node("0", 2), node("A", 3), node("Z", 1), node("_", 1), node("a", 1), node("z", 1)),
		nodes(node("a", 3), node(long(64), 1)), nodes(node("a", 1), node("aa", 1), node("aaa", 1)), many,
	}
}

// badLists are lists of nodes that Pack refuses, each for a reason of its own, or for several.
func badLists() [][]api.Node {
	a, b := node("a", 1), node("b", 2)
	l := [][]api.Node{
		nodes(b, a), nodes(a, a), nodes(a, node("a", 2)), nodes(a, b, a), nodes(a, b, b), nodes(b, a, node("c", 1)), nodes(node("ab", 1), a), nodes(a, node("B", 1)),
		nodes(api.Node{}), nodes(a, api.Node{}), nodes(api.Node{}, a), nodes(node("", 1)), nodes(b, node("", 1), node("a", 9)),
	}
	for _, kind := range []int{0, 4, -1, 255, 256, 257, 258, -255, 1 << 40, -1 << 63} {
		l = append(l, nodes(node("a", kind)), nodes(a, node("b", kind)), nodes(node("a", kind), b), nodes(node("b", kind), a))
	}
	for _, name := range noNames() {
		l = append(l, nodes(node(name, 1)), nodes(node("+", 1), node(name, 2)), nodes(node("-", 1), node(name, 3)), nodes(node(name, 1), node("zz", 1)))
	}
	return l
}

// M2: Leaf of files and links.
func TestLeaf(t *testing.T) {
	for _, e := range []api.Entry{
		f("a", ""), f("a", "x"), l("a", "x"), f("a/b/c", "x"), l("a/b/c", "x"), f(deep(32), "y"), f("a", "\x00\xff"), f("a", long(65536)), l("a", long(4096)), f(long(64), long(119)), l("-", "../../..//\x00"),
	} {
		tag := map[int]string{1: "file", 3: "link"}[e.Kind]
		if got, why := merkle.Leaf(e); got != slowTagged(tag, []byte(e.Data)) || why != api.OK {
			t.Errorf("Leaf(%s): %x, %d", show(e), got, why)
		}
	}
}

// M2: Leaf of what may not be, and of directories.
func TestNoLeaf(t *testing.T) {
	bad := append(noEntries(), d("a"), d("a/b"), d(deep(32)), api.Entry{Path: "a/b", Kind: 0}, f(deep(33), ""), f("a/b", long(65537)), l("a/b", ""))
	for _, e := range bad {
		if got, why := merkle.Leaf(e); got != (api.Digest{}) || why != api.ErrKind {
			t.Errorf("Leaf(%s): %x, %d", show(e), got, why)
		}
	}
}

// M2: a leaf's path counts for nothing, its kind does.
func TestLeavesByKindAndData(t *testing.T) {
	x, _ := merkle.Leaf(f("a", "x"))
	same, _ := merkle.Leaf(f("b/c", "x"))
	link, _ := merkle.Leaf(l("a", "x"))
	other, _ := merkle.Leaf(f("a", "y"))
	if x != same || x == link || x == other {
		t.Errorf("%x, %x, %x, %x", x, same, link, other)
	}
	// Reckoned by another program.
	if got := sha.Hex(x); got != "bc9b9c771155f4135d8add03278c13273f05114a3ec14ee8181a941d116d7e81" {
		t.Errorf("Leaf of x: %s", got)
	}
}

// M2: the bytes of nodes, written out.
func TestPackExamples(t *testing.T) {
	if b, e := merkle.Pack(); len(b) != 0 || e != api.OK {
		t.Errorf("Pack of none: %q, %d", b, e)
	}
	one, two := digestOf(1), digestOf(77)
	want := "\x01a\x02" + string(one[:]) + "\x03b-c\x01" + string(two[:])
	b, e := merkle.Pack(api.Node{Name: "a", Kind: 2, Digest: one}, api.Node{Name: "b-c", Kind: 1, Digest: two})
	if string(b) != want || e != api.OK {
		t.Errorf("Pack of two: %q, %d", b, e)
	}
}

// M2: Pack and Dir of what they take.
func TestPackAndDir(t *testing.T) {
	for _, c := range goodLists() {
		want := slowPack(c)
		if b, e := merkle.Pack(c...); !bytes.Equal(b, want) || e != api.OK {
			t.Errorf("Pack(%s): %q, %d", show(c), b[:min(len(b), 100)], e)
		}
		if got, e := merkle.Dir(c...); got != slowTagged("dir", want) || e != api.OK {
			t.Errorf("Dir(%s): %x, %d", show(c), got, e)
		}
	}
}

// M2: Pack and Dir of what they refuse.
func TestPackRefuses(t *testing.T) {
	for _, c := range badLists() {
		if b, e := merkle.Pack(c...); b != nil || e != api.ErrOrder {
			t.Errorf("Pack(%s): %q, %d", show(c), b, e)
		}
		if got, e := merkle.Dir(c...); got != (api.Digest{}) || e != api.ErrOrder {
			t.Errorf("Dir(%s): %x, %d", show(c), got, e)
		}
	}
}

// someNodes mostly rise.
func someNodes(r *rand.Rand) []api.Node {
	var out []api.Node
	for _, n := range []string{"-", "A", "a", "a-", "ab", "b", "bb", "c"} {
		if r.IntN(2) == 0 {
			out = append(out, api.Node{Name: n, Kind: 1 + r.IntN(3), Digest: digestOf(byte(r.IntN(9)))})
		}
	}
	if len(out) > 0 {
		i, j := r.IntN(len(out)), r.IntN(len(out))
		switch r.IntN(10) {
		case 0:
			out[i], out[j] = out[j], out[i]
		case 1:
			out[i].Kind = r.IntN(6) - 1
		case 2:
			out[i].Name = noNames()[r.IntN(len(noNames()))]
		case 3:
			out[i].Name = out[j].Name
		}
	}
	return out
}

// M2: Pack and Dir against the chapter's own words.
func TestPackAtRandom(t *testing.T) {
	r := source()
	met := map[api.Errno]int{}
	for range 20000 {
		c := someNodes(r)
		want, digest, why := slowPack(c), slowTagged("dir", slowPack(c)), api.OK
		if !slowNodesMayBe(c) {
			want, digest, why = nil, api.Digest{}, api.ErrOrder
		}
		if b, e := merkle.Pack(c...); !bytes.Equal(b, want) || e != why {
			t.Fatalf("Pack(%s): %q, %d, not %q, %d", show(c), b, e, want, why)
		}
		if got, e := merkle.Dir(c...); got != digest || e != why {
			t.Fatalf("Dir(%s): %x, %d, not %d", show(c), got, e, why)
		}
		met[why]++
	}
	if met[api.OK] < 2000 || met[api.ErrOrder] < 2000 {
		t.Errorf("met: %v", met)
	}
}

// M6: unlike lists of nodes have unlike bytes, wherever they are cut.
func TestPacksApart(t *testing.T) {
	seen := map[string][]api.Node{}
	r := source()
	lists := goodLists()
	for range 3000 {
		lists = append(lists, someNodes(r))
	}
	for _, c := range lists {
		b, e := merkle.Pack(c...)
		if e != api.OK {
			continue
		}
		if other, there := seen[string(b)]; there && !slices.Equal(other, c) {
			t.Fatalf("Pack(%s) is Pack(%s)", show(c), show(other))
		}
		seen[string(b)] = c
	}
}
