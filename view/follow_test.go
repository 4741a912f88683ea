package view_test

import (
	"math/rand/v2"
	"slices"
	"strings"
	"testing"

	"treadle/api"
	"treadle/tree"
	"treadle/view"
)

// W1 to W4: whatever is done with a view, it answers what the words say, and so does its clone.
func TestAnyCalls(t *testing.T) {
	g := rand.New(rand.NewPCG(10, 1))
	met := map[string]int{}
	for range 3000 {
		start := someTree(g)
		v, s := newView(t, start...), newSlow(start)
		for range g.IntN(25) {
			c := someCall(g, start)
			got, want := c.do(v), c.do(s)
			if got != want {
				t.Errorf("%v: %s, not %s", c, got, want)
			}
			met[c.name+" "+got[strings.LastIndex(got, " ")+1:]]++
			holdStand(t, v, s)
			if g.IntN(8) == 0 {
				v = v.Clone()
				holdStand(t, v, s)
			}
			if t.Failed() {
				t.Fatalf("of %+v", start)
			}
		}
	}
	for _, want := range []string{
		"Resolve 0", "Resolve 45", "Resolve 100", "Resolve 102", "Resolve 103", "Resolve 41", "Resolve 42", "Resolve 43", "Resolve 44",
		"Kind 0", "Kind 102", "Read 0", "Read 101", "List 0", "List 102",
		"Write 0", "Write 46", "Write 100", "Write 101", "Write 102", "Write 103", "Write 43",
		"Make 0", "Make 9", "Make 46", "Make 100", "Make 102", "Remove 0", "Remove 9", "Remove 46", "Remove 100", "Remove 102", "Remove 103",
	} {
		if met[want] < 3 {
			t.Errorf("%s was met %d times", want, met[want])
		}
	}
}

// otherTree is a tree in which something stands otherwise.
func otherTree(g *rand.Rand, t []api.Entry) []api.Entry {
	for range 1 + g.IntN(6) {
		p := somePath(g, t)
		next := t
		e := api.OK
		switch g.IntN(5) {
		case 0:
			next, e = tree.Put(t, f(p, pick(g, "", "other", "x")))
		case 1:
			next, e = tree.Put(t, d(p))
		case 2:
			next, e = tree.Put(t, l(p, someTarget(g)))
		case 3:
			next, e = tree.Remove(t, p)
		case 4:
			if next, e = tree.Remove(t, p); e == api.OK {
				next, e = tree.Put(next, pick(g, d(p), f(p, "z"), l(p, "a")))
			}
		}
		if e == api.OK {
			t = next
		}
	}
	return t
}

// W5: the same calls of a view over another tree, in which all holds that was learnt, give the same answers, and the same Seen.
func TestNothingElseWasAsked(t *testing.T) {
	g := rand.New(rand.NewPCG(10, 5))
	others := 0
	for range 4000 {
		start := someTree(g)
		v := newView(t, start...)
		var calls []call
		var answers []string
		for range 1 + g.IntN(12) {
			c := someCall(g, start)
			calls, answers = append(calls, c), append(answers, c.do(v))
		}
		seen := v.Seen()
		if !view.Holds(start, seen...) {
			t.Fatalf("%+v does not hold in its own tree %+v", seen, start)
		}
		for range 6 {
			other := otherTree(g, start)
			if slices.Equal(other, start) || !view.Holds(other, seen...) {
				continue
			}
			others++
			w := newView(t, other...)
			for i, c := range calls {
				if got := c.do(w); got != answers[i] {
					t.Fatalf("%v: %s over %+v, %s over %+v", c, answers[i], start, got, other)
				}
			}
			holdList(t, "Seen", w.Seen(), seen)
			holdList(t, "Outputs", w.Outputs(), v.Outputs())
			holdList(t, "Removed", w.Removed(), v.Removed())
		}
	}
	if others < 2000 {
		t.Errorf("only %d other trees", others)
	}
}

// W5: what is learnt is enough, each by each: a tree that differs at a path where the answer hangs on it does not hold.
func TestWhatWasAskedIsLearnt(t *testing.T) {
	g := rand.New(rand.NewPCG(10, 55))
	unlike := 0
	for range 6000 {
		start := someTree(g)
		other := otherTree(g, start)
		c := someCall(g, start)
		v, w := newView(t, start...), newView(t, other...)
		if c.do(v) != c.do(w) {
			unlike++
			if view.Holds(other, v.Seen()...) || view.Holds(start, w.Seen()...) {
				t.Fatalf("%v is answered otherwise over %+v and %+v, though all holds that was learnt", c, start, other)
			}
		}
	}
	if unlike < 500 {
		t.Errorf("only %d answered otherwise", unlike)
	}
}

// run makes some calls of a view over some tree.
func run(t *testing.T, g *rand.Rand) (start []api.Entry, v *view.View) {
	start = someTree(g)
	v = newView(t, start...)
	for range g.IntN(25) {
		someCall(g, start).do(v)
	}
	return start, v
}

// W6: what is resolved is a path with no link on it, at which something stands.
func TestResolvedHasNoLink(t *testing.T) {
	g := rand.New(rand.NewPCG(10, 6))
	resolved := 0
	for range 3000 {
		start, v := run(t, g)
		all, _ := v.Merged()
		for range 5 {
			p := somePath(g, start)
			q, e := v.Resolve(p)
			if e != api.OK {
				hold(t, "beside an error", q, "")
				continue
			}
			resolved++
			kind, _ := v.Kind(p)
			for at := q; at != ""; at, _ = slowSplit(at) {
				there, ok := tree.Find(all, at)
				if !ok || at == q && there.Kind != kind || at != q && there.Kind != api.KindDir {
					t.Fatalf("Resolve(%q): %q, where %+v stands at %q", p, q, there, at)
				}
			}
			if again, e := v.Resolve(q); again != q || e != api.OK {
				t.Fatalf("Resolve(%q): %q, %d", q, again, e)
			}
		}
	}
	if resolved < 3000 {
		t.Errorf("only %d resolved", resolved)
	}
}

// W6: what was learnt, written, made and removed lies within, and the tree is not turned, the one that was handed in neither.
func TestSandbox(t *testing.T) {
	g := rand.New(rand.NewPCG(10, 66))
	for range 2000 {
		start := someTree(g)
		before := slices.Clone(start)
		v := newView(t, start...)
		for range g.IntN(25) {
			someCall(g, start).do(v)
		}
		holdList(t, "the tree", start, before)
		var paths []string
		for _, s := range v.Seen() {
			paths = append(paths, s.Path)
		}
		for _, e := range v.Outputs() {
			paths = append(paths, e.Path)
		}
		for _, p := range append(paths, v.Removed()...) {
			if strings.HasPrefix(p, "/") || slices.Contains(strings.Split(p, "/"), "..") {
				t.Errorf("%q lies outside", p)
			}
		}
		if !view.Holds(before, v.Seen()...) {
			t.Error("what was learnt is not so in the tree")
		}
	}
}

// W7: Read of what was written tells it.
func TestReadOfWritten(t *testing.T) {
	g := rand.New(rand.NewPCG(10, 7))
	written := 0
	for range 3000 {
		start, v := run(t, g)
		for range 4 {
			p := somePath(g, start)
			data := pick(g, "", "some", "more")
			if v.Write(p, data) != api.OK {
				continue
			}
			written++
			if s, e := v.Read(p); s != data || e != api.OK {
				t.Fatalf("Read(%q) behind Write: %q, %d", p, s, e)
			}
		}
	}
	if written < 1000 {
		t.Errorf("only %d written", written)
	}
}

// W7: what Merged tells is a right tree, and a new view sees it as this one does.
func TestMergedSeesTheSame(t *testing.T) {
	g := rand.New(rand.NewPCG(10, 77))
	for range 2000 {
		start, v := run(t, g)
		all, e := v.Merged()
		if _, why := tree.Check(all); e != api.OK || why != api.OK {
			t.Fatalf("Merged: %+v, %d: %d", all, e, why)
		}
		w := newView(t, all...)
		for range 10 {
			c := someCall(g, slices.Concat(start, all))
			if got, want := c.do(w), c.do(v); got != want {
				t.Fatalf("%v: %s over Merged, %s before, of %+v", c, got, want, all)
			}
		}
	}
}

// W7: what no call wrote, made or removed is as it was.
func TestTheRestIsAsItWas(t *testing.T) {
	g := rand.New(rand.NewPCG(10, 777))
	for range 2000 {
		start, v := run(t, g)
		all, _ := v.Merged()
		turned := v.Removed()
		for _, e := range v.Outputs() {
			turned = append(turned, e.Path)
			if there, _ := tree.Find(all, e.Path); there != e {
				t.Errorf("Merged has %+v, not %+v", there, e)
			}
		}
		for _, p := range v.Removed() {
			if _, ok := tree.Find(all, p); ok {
				t.Errorf("Merged has %q, which was removed", p)
			}
		}
		for _, e := range append(slices.Clone(start), all...) {
			was, _ := tree.Find(start, e.Path)
			is, _ := tree.Find(all, e.Path)
			if was != is && !slices.Contains(turned, e.Path) {
				t.Errorf("at %q stood %+v, and stands %+v", e.Path, was, is)
			}
		}
	}
}
