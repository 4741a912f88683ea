package view_test

import (
	"fmt"
	"slices"
	"testing"

	"treadle/api"
	"treadle/view"
)

// orders are all orders of some calls.
func orders(l []call) [][]call {
	if len(l) == 0 {
		return [][]call{nil}
	}
	var out [][]call
	for i := range l {
		rest := append(slices.Clone(l[:i]), l[i+1:]...)
		for _, o := range orders(rest) {
			out = append(out, append(calls(l[i]), o...))
		}
	}
	return out
}

// W4: of one path a look never takes the place of a read or a list, whichever comes first.
func TestLearntInEveryOrder(t *testing.T) {
	look := call{"Resolve", "b/g", ""}
	for _, c := range []struct {
		calls []call
		want  []api.Seen
	}{
		{calls(look, kind("b/g"), call{"Resolve", "b", ""}), []api.Seen{dirMet("b"), fileKind("b/g")}},
		{calls(look, read("b/g"), kind("b/g")), []api.Seen{dirMet("b"), fileRead("b/g", "y")}},
		{calls(look, list("b"), kind("b")), []api.Seen{dirListed("b", "g"), fileKind("b/g")}},
		{calls(read("b/g"), list("b"), look, kind("b/n")), []api.Seen{dirListed("b", "g"), fileRead("b/g", "y"), nothing("b/n")}},
		{calls(list(""), list("b"), read("b/g"), list("b")), []api.Seen{dirListed("", "a", "b"), dirListed("b", "g"), fileRead("b/g", "y")}},
		{calls(list("a/l"), kind("a/l"), read("a/l/g")), []api.Seen{dirMet("a"), linkMet("a/l", "../b"), dirListed("b", "g"), fileRead("b/g", "y")}},
		{calls(read("b"), list("b/g"), kind("b/g/z")), []api.Seen{dirMet("b"), fileKind("b/g")}},
		{calls(remove("b"), kind("b"), read("b/g")), []api.Seen{dirListed("b", "g"), fileRead("b/g", "y")}},
		{calls(make_("b/g"), write("b", ""), write("b/g/z", ""), read("b/g")), []api.Seen{dirMet("b"), fileRead("b/g", "y")}},
	} {
		for _, o := range orders(c.calls) {
			v := newView(t, example()...)
			for range 2 {
				for _, x := range o {
					x.do(v)
				}
			}
			if got := v.Seen(); !slices.Equal(got, c.want) {
				t.Errorf("%v: %s, not %s", o, show(got), show(c.want))
			}
		}
	}
}

// W4: what calls learn that end in an error stays.
func TestLearntBesideErrors(t *testing.T) {
	e := row(d("d"), f("d/f", "x"), l("d/out", "../.."), l("d/ring", "ring"), l("d/to", "../e"), l("far", deep(32)))
	for _, c := range []struct {
		call call
		want string
		seen []api.Seen
	}{
		{read("d/n/m"), `"" 100`, []api.Seen{dirMet("d"), nothing("d/n")}},
		{read("d/f/m"), `"" 102`, []api.Seen{dirMet("d"), fileKind("d/f")}},
		{read("d"), `"" 101`, []api.Seen{dirMet("d")}},
		{list("d/f"), `[] 102`, []api.Seen{dirMet("d"), fileKind("d/f")}},
		{read("d/out/x"), `"" 43`, []api.Seen{dirMet("d"), linkMet("d/out", "../..")}},
		{read("d/ring"), `"" 103`, []api.Seen{dirMet("d"), linkMet("d/ring", "ring")}},
		{read("d/to"), `"" 100`, []api.Seen{dirMet("d"), linkMet("d/to", "../e"), nothing("e")}},
		{kind("far/x"), `0 44`, []api.Seen{linkMet("far", deep(32))}},
		{write("d/to", "x"), `100`, []api.Seen{dirMet("d"), linkMet("d/to", "../e"), nothing("e")}},
		{write("d", "x"), `101`, []api.Seen{dirMet("d")}},
		{make_("d/f"), `9`, []api.Seen{dirMet("d"), fileKind("d/f")}},
		{make_("d/ring"), `100`, []api.Seen{dirMet("d"), linkMet("d/ring", "ring")}},
		{remove("d"), `9`, []api.Seen{dirListed("d", "f", "out", "ring", "to")}},
		{remove("d/n"), `100`, []api.Seen{dirMet("d"), nothing("d/n")}},
		{remove("d/f/n"), `102`, []api.Seen{dirMet("d"), fileKind("d/f")}},
		{remove("d/out/n"), `43`, []api.Seen{dirMet("d"), linkMet("d/out", "../..")}},
	} {
		v := newView(t, e...)
		hold(t, c.call.String(), c.call.do(v), c.want)
		holdSeen(t, v, c.seen...)
	}
}

// W4: of what the overlay has nothing is learnt, by a look, by a read, by a list; what was learnt ahead stays.
func TestNothingLearntOfOverlay(t *testing.T) {
	v := newView(t, example()...)
	for _, c := range calls(write("n", "1"), make_("m"), write("b/g", "2"), remove("a/f")) {
		hold(t, c.String(), c.do(v), "0")
	}
	want := []api.Seen{dirMet("a"), fileKind("a/f"), dirMet("b"), fileKind("b/g"), nothing("m"), nothing("n")}
	holdSeen(t, v, want...)
	for _, c := range calls(read("n"), kind("n"), list("m"), kind("m"), read("b/g"), kind("a/f"), read("a/f"), write("b/g", "3"), write("a/f", "1"), read("a/f"), remove("a/f"), remove("n"), remove("m")) {
		c.do(v)
		holdSeen(t, v, want...)
	}
	// The tree has nothing there, as before.
	holdDo(t, v, "Kind", "n", "0 0")
	holdSeen(t, v, want...)
}

// W4: Seen rises by paths, the root first.
func TestSeenRises(t *testing.T) {
	v := newView(t, d("a"), f("a/x", ""), d("a-b"))
	for _, p := range []string{"b", "a.b", "a-b", "a/x", "a/b", "A", "aa", "a-b/c"} {
		v.Kind(p)
	}
	v.List("")
	var got []string
	for _, s := range v.Seen() {
		got = append(got, s.Path)
	}
	holdList(t, "Seen", got, []string{"", "A", "a", "a/b", "a/x", "a-b", "a-b/c", "a.b", "aa", "b"})
}

// W4: Holds of every What and Kind at every kind of path, with each digest that could be meant.
func TestHolds(t *testing.T) {
	e := row(d("d"), d("d/e"), f("d/f", "x"), f("f", "text"), l("l", "d"))
	digests := []api.Digest{{}, {1}, digest(""), digest("x"), digest("text"), digest("d"), namesDigest(), namesDigest("d", "f", "l"), namesDigest("e", "f"), namesDigest("f", "e"), namesDigest("", "d", "f", "l")}
	paths := append(noPaths(), "", "d", "d/e", "d/f", "f", "l", "none", "d/none", "f/x", "l/e", "l/f", "D")
	held := 0
	for _, p := range paths {
		for what := -2; what < 8; what++ {
			for kind := -2; kind < 6; kind++ {
				for _, sum := range digests {
					s := api.Seen{Path: p, What: what, Kind: kind, Digest: sum}
					want := slowHolds(e, s)
					if want {
						held++
					}
					if view.Holds(e, s) != want {
						t.Fatalf("Holds of %+v: %v", s, !want)
					}
				}
			}
		}
	}
	if held < 1000 {
		t.Errorf("only %d held", held)
	}
}

// W4: the words, one by one.
func TestHoldsByWhat(t *testing.T) {
	e := row(d("d"), d("d/e"), f("d/f", "x"), f("f", "text"), l("l", "d"))
	seen := func(p string, what, kind int, sum api.Digest) api.Seen {
		return api.Seen{Path: p, What: what, Kind: kind, Digest: sum}
	}
	none := api.Digest{}
	for _, c := range []struct {
		s    api.Seen
		want bool
	}{
		{nothing("none"), true}, {nothing("f"), false}, {nothing("d"), false}, {nothing("l"), false}, {nothing(""), false}, {nothing("a//b"), true}, {nothing("f/x"), true},
		{seen("none", api.SeenNothing, api.KindDir, digest("x")), true},
		{fileKind("f"), true}, {fileKind("d"), false}, {fileKind("none"), false}, {fileKind("a//b"), false},
		{seen("none", api.SeenKind, api.KindNone, none), false}, {seen("f", api.SeenKind, api.KindNone, none), false},
		{seen("a//b", api.SeenKind, api.KindNone, none), false},
		{seen("d", api.SeenKind, api.KindDir, none), true}, {seen("l", api.SeenKind, api.KindLink, none), true},
		{seen("", api.SeenKind, api.KindDir, none), true}, {seen("", api.SeenKind, api.KindFile, none), false},
		{seen("f", api.SeenKind, api.KindFile, digest("other")), true},
		{seen("f", api.SeenKind, 4, none), false},
		{fileRead("f", "text"), true}, {fileRead("f", "texts"), false}, {fileRead("d/f", "x"), true}, {fileRead("l", "d"), false}, {fileRead("none", ""), false}, {fileRead("d", ""), false},
		{seen("f", api.SeenFile, api.KindDir, digest("text")), true}, {seen("f", api.SeenFile, api.KindFile, none), false},
		{linkMet("l", "d"), true}, {linkMet("l", "e"), false}, {linkMet("f", "text"), false}, {seen("l", api.SeenLink, api.KindNone, digest("d")), true},
		{dirMet("d"), true}, {dirMet(""), true}, {dirMet("f"), false}, {dirMet("l"), false}, {dirMet("none"), false}, {dirMet("d/"), false},
		{dirListed("d", "e", "f"), true}, {dirListed("", "d", "f", "l"), true}, {dirListed("d/e"), true}, {dirListed("d", "e"), false}, {dirListed("d"), false},
		{dirListed("f"), false}, {dirListed("none"), false}, {dirListed("l", "e", "f"), false}, {seen("d", api.SeenDir, api.KindLink, none), true},
		{seen("f", 5, api.KindFile, none), false}, {seen("none", -1, api.KindNone, none), false}, {seen("none", 5, api.KindNone, none), false},
	} {
		if view.Holds(e, c.s) != c.want {
			t.Errorf("Holds of %+v: %v", c.s, !c.want)
		}
	}
}

// W4: all of them must be so; of none there is nothing that is not.
func TestHoldsOfAll(t *testing.T) {
	e := example()
	good := []api.Seen{nothing("c"), dirMet("a"), fileRead("b/g", "y")}
	if !view.Holds(e) || !view.Holds(nil) || !view.Holds(e, good...) || !view.Holds(e, append(good, good...)...) {
		t.Error("Holds of what is so")
	}
	for i := range 4 {
		l := slices.Insert(slices.Clone(good), i, fileKind("a"))
		if view.Holds(e, l...) {
			t.Errorf("Holds of %s", show(l))
		}
	}
	if view.Holds(nil, good...) || view.Holds(row(e[0]), good...) {
		t.Error("Holds in another tree")
	}
}

// W4: a directory of many names, and one with much below it.
func TestListedDigests(t *testing.T) {
	var e []api.Entry
	var names []string
	e = append(e, d("d"))
	for i := range 500 {
		name := fmt.Sprintf("n%03d", i)
		names = append(names, name)
		e = append(e, d("d/"+name), f("d/"+name+"/x", ""))
	}
	e = append(e, f("d-", ""))
	v := newView(t, e...)
	got, why := v.List("d")
	holdList(t, "List", got, names)
	hold(t, "List", why, api.OK)
	holdDo(t, v, "List", "", `["d" "d-"] 0`)
	holdDo(t, v, "List", "d/n499", `["x"] 0`)
	holdSeen(t, v, dirListed("", "d", "d-"), dirListed("d", names...), dirListed("d/n499", "x"))
	hold(t, "Holds", view.Holds(e, v.Seen()...), true)
}
