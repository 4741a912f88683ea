package view_test

import (
	"fmt"
	"slices"
	"strings"
	"testing"

	"treadle/api"
	"treadle/view"
)

// example is the chapter's tree.
func example() []api.Entry {
	return row(d("a"), f("a/f", "x"), l("a/l", "../b"), d("b"), f("b/g", "y"))
}

// noPaths are texts of which each is no path for a reason of its own.
func noPaths() []string {
	return []string{
		"/", "/a", "a/", "a//b", ".", "..", "./a", "a/..", "a/./b", "a b", "a\\b", "é", "a/\x00", long(65), "a/" + long(65), deep(33),
	}
}

// holdDo holds what a call answers, written as call.do has it.
func holdDo(t *testing.T, v viewer, name, p, want string) {
	t.Helper()
	c := call{name: name, p: p, data: "data"}
	if got := c.do(v); got != want {
		t.Errorf("%v: %s, not %s", c, got, want)
	}
}

func holdSeen(t *testing.T, v viewer, want ...api.Seen) {
	t.Helper()
	holdList(t, "Seen", v.Seen(), want)
}

// W1, W4: the chapter's first example.
func TestFirstExample(t *testing.T) {
	v := newView(t, example()...)
	holdDo(t, v, "Read", "a/l/g", `"y" 0`)
	holdSeen(t, v, dirMet("a"), linkMet("a/l", "../b"), dirMet("b"), fileRead("b/g", "y"))
	holdDo(t, v, "Resolve", "a/l", `"b" 0`)
	holdSeen(t, v, dirMet("a"), linkMet("a/l", "../b"), dirMet("b"), fileRead("b/g", "y"))
	holdDo(t, v, "Read", "a/f/z", `"" 102`)
	holdDo(t, v, "Read", "c", `"" 100`)
	holdSeen(t, v, dirMet("a"), fileKind("a/f"), linkMet("a/l", "../b"), dirMet("b"), fileRead("b/g", "y"), nothing("c"))
}

// W1: the chapter's second example, and other links: to themselves, out, from the root, to a file, to a directory, to nothing.
func TestLinks(t *testing.T) {
	for _, c := range []struct {
		to, want string
		more     []api.Seen
	}{
		{"l", `"" 103`, nil},
		{"./l/../l", `"" 103`, nil},
		{"../x", `"" 43`, nil},
		{"..", `"" 43`, nil},
		{"d/../../d", `"" 43`, nil},
		{"/x", `"" 41`, nil},
		{"/", `"" 41`, nil},
		{"a b", `"" 42`, nil},
		{"\x00", `"" 42`, nil},
		{deep(33), `"" 44`, nil},
		{long(65), `"" 42`, nil},
		{"f", `"f" 0`, []api.Seen{fileKind("f")}},
		{"d", `"d" 0`, []api.Seen{dirMet("d")}},
		{"./d//f/", `"d/f" 0`, []api.Seen{dirMet("d"), fileKind("d/f")}},
		{"none/../d", `"d" 0`, []api.Seen{dirMet("d")}},
		{".", `"" 0`, nil},
		{"d/..", `"" 0`, nil},
		{"x", `"" 100`, []api.Seen{nothing("x")}},
		{"x/y", `"" 100`, []api.Seen{nothing("x")}},
		{"f/y", `"" 102`, []api.Seen{fileKind("f")}},
		{"f/.", `"f" 0`, []api.Seen{fileKind("f")}},
		{"d/x", `"" 100`, []api.Seen{dirMet("d"), nothing("d/x")}},
	} {
		v := newView(t, d("d"), f("d/f", "1"), f("f", "2"), l("l", c.to))
		holdDo(t, v, "Resolve", "l", c.want)
		want := append(slices.Clone(c.more), linkMet("l", c.to))
		slices.SortFunc(want, func(a, b api.Seen) int { return slices.Compare(slowNames(a.Path), slowNames(b.Path)) })
		holdSeen(t, v, want...)
	}
}

// W1: a link's .. is meant from the link's directory, as it is written, wherever one came from.
func TestLinksFromTheirDirectory(t *testing.T) {
	v := newView(t, d("a"), d("a/b"), l("a/b/up", "../x"), l("a/b/upper", "../../x"), f("a/x", "in a"), l("s", "a/b"), l("t", "s/../x"), f("x", "at the root"))
	for p, want := range map[string]string{"a/b/up": "in a", "s/up": "in a", "a/b/upper": "at the root", "s/upper": "at the root", "t": "at the root"} {
		holdDo(t, v, "Read", p, fmt.Sprintf("%q 0", want))
	}
}

// chain is a file, or what else stands at "end", with n links ahead of it: l1 leads to the end, l2 to l1 and so on.
func chain(n int) []api.Entry {
	t := row(f("end", "x"))
	to := "end"
	for i := range n {
		name := fmt.Sprintf("l%02d", i+1)
		t = append(t, l(name, to))
		to = name
	}
	return t
}

// W1: MaxHops links are followed, and one more is not; it was looked at, and so was all ahead of it.
func TestHops(t *testing.T) {
	for n := range api.MaxHops + 3 {
		v := newView(t, chain(n)...)
		p, want := "end", `"end" 0`
		if n > 0 {
			p = fmt.Sprintf("l%02d", n)
		}
		if n > api.MaxHops {
			want = `"" 103`
		}
		holdDo(t, v, "Resolve", p, want)
		seen := v.Seen()
		if want := min(n+1, api.MaxHops+1); len(seen) != want {
			t.Errorf("of %d links %d paths were seen, not %d", n, len(seen), want)
		}
		if seen[0].Path == "end" != (n <= api.MaxHops) {
			t.Errorf("of %d links: %s", n, show(seen))
		}
	}
}

// W1: links are counted together, wherever on the way they stand; each call counts anew; ErrHops comes ahead of a link's other faults.
func TestHopsTogether(t *testing.T) {
	v := newView(t, l("e", "/x"), f("f", "x"), l("o", "."), l("p", "o/o/o"))
	for n := range 12 {
		p, want := strings.Repeat("o/", n)+"f", `"f" 0`
		if n > 8 {
			want = `"" 103`
		}
		holdDo(t, v, "Resolve", p, want)
		holdDo(t, v, "Resolve", p, want)
	}
	holdDo(t, v, "Resolve", "p/p/f", `"f" 0`)
	holdDo(t, v, "Resolve", "p/p/o/f", `"" 103`)
	holdDo(t, v, "Resolve", "o/o/o/o/o/o/o/e", `"" 41`)
	holdDo(t, v, "Resolve", "o/o/o/o/o/o/o/o/e", `"" 103`)
	holdDo(t, v, "Write", "o/o/o/o/o/o/o/o/new", "0")
	holdDo(t, v, "Write", "o/o/o/o/o/o/o/o/o/newer", "103")
	holdDo(t, v, "Make", "o/o/o/o/o/o/o/o/o/newer", "103")
	holdDo(t, v, "Remove", "o/o/o/o/o/o/o/o/f", "0")
	holdDo(t, v, "Remove", "o/o/o/o/o/o/o/o/o/new", "103")
	holdDo(t, v, "Remove", "o/o/o/o/o/o/o/o/o", "0")
}

// W1: a link's path and the names still ahead are at most MaxDepth together; else nothing of them is looked at.
func TestDepth(t *testing.T) {
	for _, c := range []struct{ target, ahead, want int }{
		{30, 2, 0}, {30, 1, 0}, {31, 1, 0}, {32, 0, 0}, {31, 2, 44}, {32, 1, 44}, {3, 29, 0}, {3, 30, 44}, {33, 0, 44},
	} {
		v := newView(t, append(deepDirs(32), l("l", "./"+deep(c.target)))...)
		p := slowJoin("l", deep(c.ahead))
		if c.ahead == 0 {
			p = "l"
		}
		want := fmt.Sprintf("%q 0", deep(c.target+c.ahead))
		if c.want != 0 {
			want = fmt.Sprintf("%q %d", "", c.want)
		}
		holdDo(t, v, "Resolve", p, want)
		if seen := v.Seen(); c.want != 0 {
			holdList(t, "Seen", seen, []api.Seen{linkMet("l", "./"+deep(c.target))})
		} else if len(seen) != c.target+c.ahead+1 {
			t.Errorf("%d paths were seen", len(seen))
		}
	}
	// Links whose names go away on the way may have more names ahead of them.
	v := newView(t, append(deepDirs(32), l("l", deep(40)+strings.Repeat("/..", 10)))...)
	holdDo(t, v, "Resolve", "l/a/a", fmt.Sprintf("%q 0", deep(32)))
	holdDo(t, v, "Resolve", "l/a/a/a", `"" 44`)
	// Names that were gone through already are not ahead any more.
	v = newView(t, append(deepDirs(31), l(deep(31)+"/l", strings.Repeat("../", 31)+"x"), f("x", "far"))...)
	holdDo(t, v, "Read", deep(31)+"/l", `"far" 0`)
}

// W1: the root in every call; List alone learns.
func TestRoot(t *testing.T) {
	v := newView(t, example()...)
	holdDo(t, v, "Resolve", "", `"" 0`)
	holdDo(t, v, "Kind", "", "2 0")
	holdDo(t, v, "Read", "", `"" 101`)
	holdDo(t, v, "Write", "", "46")
	holdDo(t, v, "Make", "", "46")
	holdDo(t, v, "Remove", "", "46")
	hold(t, "Write of too much to the root", v.Write("", long(api.MaxFile+1)), api.ErrRoot)
	holdSeen(t, v)
	holdDo(t, v, "List", "", `["a" "b"] 0`)
	holdSeen(t, v, dirListed("", "a", "b"))
	v = newView(t)
	holdDo(t, v, "List", "", `[] 0`)
	holdSeen(t, v, dirListed(""))
	holdDo(t, v, "Remove", "", "46")
}

// W1: Kind, Read and List of what stands there, of what does not, and of links.
func TestAsks(t *testing.T) {
	e := row(l("away", "../.."), d("d"), d("d/e"), f("d/f", ""), l("d/g", "e"), f("f", "text"), l("ld", "d"), l("lf", "f"), l("ln", "none"))
	for _, c := range []struct{ p, kind, read, list string }{
		{"f", "1 0", `"text" 0`, `[] 102`},
		{"lf", "1 0", `"text" 0`, `[] 102`},
		{"d/f", "1 0", `"" 0`, `[] 102`},
		{"ld/f", "1 0", `"" 0`, `[] 102`},
		{"d", "2 0", `"" 101`, `["e" "f" "g"] 0`},
		{"ld", "2 0", `"" 101`, `["e" "f" "g"] 0`},
		{"d/e", "2 0", `"" 101`, `[] 0`},
		{"ld/g", "2 0", `"" 101`, `[] 0`},
		{"none", "0 0", `"" 100`, `[] 100`},
		{"ln", "0 0", `"" 100`, `[] 100`},
		{"ln/x", "0 0", `"" 100`, `[] 100`},
		{"d/e/x/y", "0 0", `"" 100`, `[] 100`},
		{"f/x", "0 102", `"" 102`, `[] 102`},
		{"lf/x", "0 102", `"" 102`, `[] 102`},
		{"away", "0 43", `"" 43`, `[] 43`},
		{"away/x", "0 43", `"" 43`, `[] 43`},
	} {
		v := newView(t, e...)
		holdDo(t, v, "Kind", c.p, c.kind)
		holdDo(t, v, "Read", c.p, c.read)
		holdDo(t, v, "List", c.p, c.list)
	}
}

// W1: names rise byte by byte, those of the overlay among the others, and what lies deeper is not told.
func TestListRises(t *testing.T) {
	v := newView(t, d("a"), f("a/x", ""), f("a-b", ""), f("aa", ""), d("b"), l("z", "a"))
	holdDo(t, v, "List", "", `["a" "a-b" "aa" "b" "z"] 0`)
	for _, p := range []string{"A", "a.", "a0", "b/q", "zz", "a/a", "a/z"} {
		holdDo(t, v, "Write", p, "0")
	}
	holdDo(t, v, "Make", "a_", "0")
	holdDo(t, v, "Make", "a_/m", "0")
	holdDo(t, v, "Remove", "aa", "0")
	holdDo(t, v, "List", "", `["A" "a" "a-b" "a." "a0" "a_" "b" "z" "zz"] 0`)
	holdDo(t, v, "List", "a", `["a" "x" "z"] 0`)
	holdDo(t, v, "List", "z", `["a" "x" "z"] 0`)
	holdDo(t, v, "List", "a_", `["m"] 0`)
	if s := v.Seen(); !slices.Contains(s, dirListed("", "a", "a-b", "aa", "b", "z")) || !slices.Contains(s, dirListed("a", "x")) {
		t.Errorf("Seen has not the tree's own names: %s", show(s))
	}
}

// W1: New answers Check's error of a tree that is not right.
func TestWrongTrees(t *testing.T) {
	var many, big []api.Entry
	for i := range 1025 {
		many = append(many, f(fmt.Sprintf("n%04d", i), ""))
	}
	for i := range 17 {
		big = append(big, f(fmt.Sprintf("n%04d", i), long(65536)))
	}
	for _, c := range []struct {
		t    []api.Entry
		want api.Errno
	}{
		{many, api.ErrMany},
		{big, api.ErrBig},
		{row(f("a/b", "x")), api.ErrParent},
		{row(d("b"), d("a")), api.ErrOrder},
		{row(d("a"), f("a", "")), api.ErrOrder},
		{row(api.Entry{Path: "a", Kind: api.KindDir, Data: "x"}), api.ErrKind},
		{row(api.Entry{}), api.ErrKind},
		{row(f("a", long(65537))), api.ErrKind},
		{row(l("a", "")), api.ErrKind},
	} {
		if v, e := view.New(c.t); v != nil || e != c.want {
			t.Errorf("New(%s): %v, %d, not %d", show(c.t), v, e, c.want)
		}
		if view.Holds(c.t) || view.Holds(c.t, nothing("none")) || view.Holds(c.t, dirMet("")) {
			t.Errorf("Holds(%s)", show(c.t))
		}
	}
	if v, e := view.New(many[:1024]); v == nil || e != api.OK {
		t.Errorf("New of 1024 entries: %d", e)
	}
	if v, e := view.New(big[:16]); v == nil || e != api.OK {
		t.Errorf("New of 2^20 bytes: %d", e)
	}
}

// W1, W3: a new view has nothing in its overlay, and nothing was learnt.
func TestNew(t *testing.T) {
	for _, e := range [][]api.Entry{nil, {}, example(), deepDirs(32)} {
		holdStand(t, newView(t, e...), newSlow(e))
		v := newView(t, e...)
		hold(t, "what is told of a new view", len(v.Seen())+len(v.Outputs())+len(v.Removed()), 0)
		all, why := v.Merged()
		holdList(t, "Merged", all, e)
		hold(t, "Merged", why, api.OK)
	}
}

// W1: what is no path is told ahead of all else, and nothing is learnt or turned.
func TestNoPaths(t *testing.T) {
	v := newView(t, append(example(), l("self", "self"))...)
	for _, p := range noPaths() {
		holdDo(t, v, "Resolve", p, `"" 45`)
		holdDo(t, v, "Kind", p, "0 45")
		holdDo(t, v, "Read", p, `"" 45`)
		holdDo(t, v, "List", p, `[] 45`)
		holdDo(t, v, "Write", p, "45")
		holdDo(t, v, "Make", p, "45")
		holdDo(t, v, "Remove", p, "45")
		hold(t, "Write of too much to no path", v.Write(p, long(api.MaxFile+1)), api.ErrPath)
	}
	holdStand(t, v, newSlow(append(example(), l("self", "self"))))
}

// R1: a view that is nil, or that no call made, answers ErrNil ahead of all else, and nothing; and stays as it is.
func TestNoView(t *testing.T) {
	for name, v := range map[string]*view.View{"nil": nil, "plain": {}, "new": new(view.View)} {
		for range 2 {
			for _, p := range append(noPaths(), "", "a", "a/f") {
				holdDo(t, v, "Resolve", p, `"" 2`)
				holdDo(t, v, "Kind", p, "0 2")
				holdDo(t, v, "Read", p, `"" 2`)
				holdDo(t, v, "List", p, `[] 2`)
				holdDo(t, v, "Write", p, "2")
				holdDo(t, v, "Make", p, "2")
				holdDo(t, v, "Remove", p, "2")
				hold(t, "Write", v.Write(p, long(api.MaxFile+1)), api.ErrNil)
			}
			all, e := v.Merged()
			if len(all) != 0 || e != api.ErrNil || len(v.Outputs()) != 0 || len(v.Removed()) != 0 || len(v.Seen()) != 0 || v.Clone() != nil {
				t.Errorf("%s: %v, %d, %v, %v, %v, %v", name, all, e, v.Outputs(), v.Removed(), v.Seen(), v.Clone())
			}
		}
	}
}
