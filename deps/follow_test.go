package deps_test

import (
	"math/rand/v2"
	"slices"
	"strings"
	"testing"

	"treadle/api"
	"treadle/deps"
	"treadle/scan"
	"treadle/tree"
	"treadle/view"
)

// graph is which modules of a tree include which: all those to which start leads, by their paths; lost tells that some include leads nowhere.
type graph struct {
	needs map[string][]string
	lost  bool
}

func graphOf(v *view.View, start string) graph {
	g := graph{needs: map[string][]string{}}
	for ahead := []string{start}; len(ahead) > 0; ahead = ahead[1:] {
		p := ahead[0]
		if _, known := g.needs[p]; known {
			continue
		}
		g.needs[p] = nil
		text, _ := v.Read(p)
		l, f := scan.Includes(text)
		g.lost = g.lost || f.Why != api.OK
		for _, in := range l {
			aims, f := scan.Aimed(p, []api.Include{in})
			if f.Why != api.OK {
				g.lost = true
				continue
			}
			need, e := v.Resolve(aims[0])
			if kind, _ := v.Kind(aims[0]); e != api.OK || kind != api.KindFile {
				g.lost = true
				continue
			}
			g.needs[p] = append(g.needs[p], need)
			ahead = append(ahead, need)
		}
	}
	return g
}

// ringed tells whether modules include one another in a ring: some are left when those that include none but what was taken away are taken away.
func (g graph) ringed() bool {
	var gone []string
	for more := true; more; {
		more = false
		for p, needs := range g.needs {
			if slices.Contains(gone, p) || slices.ContainsFunc(needs, func(need string) bool { return !slices.Contains(gone, need) }) {
				continue
			}
			gone, more = append(gone, p), true
		}
	}
	return len(gone) < len(g.needs)
}

func has(told []api.Diag, why api.Errno) bool {
	return slices.ContainsFunc(told, func(x api.Diag) bool { return x.Why == why })
}

// E4: units that are told are right, the last is where start leads, all that is needed stands ahead; and they are all modules to which it leads.
func TestUnitsAreRight(t *testing.T) {
	r := newMaker(4, false)
	closed := 0
	for range 6000 {
		v := newView(t, r.entries()...)
		start := one(r.Rand, "a.m", "b.m", "lib/a.m", "lib/in/a.m", "one.m", "to/b.m", "in/a.m", "to/in/a.m")
		l, told := deps.Close(v, start, one(r.Rand, 9, 9, 3, 2))
		if len(told) > 0 {
			if len(l) > 0 {
				t.Fatalf("units beside %v", told)
			}
			continue
		}
		closed++
		there, _ := v.Resolve(start)
		if !deps.Right(l) || l[len(l)-1].Path != there {
			t.Fatalf("of %q: %s", start, shown(l, nil))
		}
		g := graphOf(v, there)
		if len(l) != len(g.needs) {
			t.Errorf("%s: not all of %v", shown(l, nil), g.needs)
		}
		for i, u := range l {
			if text, _ := v.Read(u.Path); text != u.Text || !slices.Equal(u.Needs, g.needs[u.Path]) {
				t.Errorf("%v needs %v", u, g.needs[u.Path])
			}
			for _, need := range u.Needs {
				if placeOf(l[:i], need) < 0 {
					t.Errorf("%q doesn't stand ahead of %q", need, u.Path)
				}
			}
		}
	}
	if closed < 1000 {
		t.Error("too few closures:", closed)
	}
}

// otherTree is a tree in which something stands otherwise.
func otherTree(r maker, entries []api.Entry) []api.Entry {
	for range 1 + r.IntN(4) {
		p := one(r.Rand, append(modulePaths, "one.m", "to", "none", "lib/none", "new.m", "d/new.m", "in/a.m", "top")...)
		next, e := entries, api.OK
		switch r.IntN(4) {
		case 0:
			next, e = tree.Put(entries, f(p, r.text()))
		case 1:
			next, e = tree.Put(entries, l(p, one(r.Rand, "a.m", "lib/b.m", "lib", "none")))
		case 2:
			next, e = tree.Remove(entries, p)
		case 3:
			if next, e = tree.Remove(entries, p); e == api.OK {
				next, e = tree.Put(next, one(r.Rand, f(p, ""), l(p, "lib/in"), d(p)))
			}
		}
		if e == api.OK {
			entries = next
		}
	}
	return entries
}

// E5: where all holds that was learnt, another view's closure is the same, and learns the same.
func TestWhatWasReadCounts(t *testing.T) {
	r := newMaker(5, true)
	same, unlike := 0, 0
	for range 6000 {
		entries := grown(t, r.entries()...)
		start, most := one(r.Rand, "a.m", "b.m", "lib/a.m", "one.m", "to/b.m", "none", "lib/in/a.m"), one(r.Rand, 9, 9, 3, 2, 1)
		v := newView(t, entries...)
		want, why := deps.Close(v, start, most)
		for range 4 {
			other := otherTree(r, entries)
			w := newView(t, other...)
			got, told := deps.Close(w, start, most)
			alike := slices.EqualFunc(got, want, sameUnit) && slices.Equal(told, why)
			if !alike {
				unlike++
			}
			if !view.Holds(other, v.Seen()...) {
				continue
			}
			if !slices.Equal(other, entries) {
				same++
			}
			if !alike || !slices.Equal(w.Seen(), v.Seen()) {
				t.Fatalf("Close(%q, %d): %s, not %s, of %v and %v", start, most, shown(got, told), shown(want, why), entries, other)
			}
		}
	}
	if same < 1000 || unlike < 1000 {
		t.Error("too few of a kind:", same, unlike)
	}
}

// E6: a ring is found, if all includes lead somewhere; and where there is none, none is told, whatever else is.
func TestRingsAreFound(t *testing.T) {
	for _, wild := range []bool{false, true} {
		r := newMaker(6, wild)
		ringed, free := 0, 0
		for range 6000 {
			v := newView(t, r.entries()...)
			start := one(r.Rand, modulePaths...)
			there, e := v.Resolve(start)
			if e != api.OK {
				continue
			}
			g := graphOf(v, there)
			if !wild && g.lost {
				t.Fatal("an include leads nowhere")
			}
			ring := g.ringed()
			if ring {
				ringed++
			} else {
				free++
			}
			for most := 1; most <= 7; most++ {
				_, told := deps.Close(v, start, most)
				if ring && !g.lost && !has(told, api.ErrCycle) && (!has(told, api.ErrModules) || most >= len(g.needs)) {
					t.Errorf("Close(%q, %d) of %v: no ring: %v", start, most, g.needs, told)
				}
				if !ring && has(told, api.ErrCycle) {
					t.Errorf("Close(%q, %d) of %v: a ring: %v", start, most, g.needs, told)
				}
				if !ring && !g.lost && (len(told) == 0) != (most >= len(g.needs)) {
					t.Errorf("Close(%q, %d) of %v: %v", start, most, g.needs, told)
				}
			}
		}
		if ringed < 500 || free < 500 {
			t.Error("too few of a kind:", ringed, free)
		}
	}
}

// E6: rings of all lengths, with a way that leads there.
func TestLongRings(t *testing.T) {
	name := func(i int) string { return "m" + strings.Repeat("i", i) }
	for n := 1; n <= 20; n++ {
		for ahead := range 4 {
			var entries []api.Entry
			for i := range ahead + n - 1 {
				entries = append(entries, f(name(i), inc(name(i+1))))
			}
			last := name(ahead + n - 1)
			entries = append(entries, f(last, inc(name(ahead))))
			holdClose(t, shownDiag(last, api.ErrCycle, 0), name(0), ahead+n, entries...)
			if ahead+n > 1 {
				holdClose(t, shownDiag(name(ahead+n-2), api.ErrModules, 0), name(0), ahead+n-1, entries...)
			}
		}
	}
}

// otherText is a text of the same includes, which may stand at other places.
func otherText(r *rand.Rand, s string) string {
	includes, _ := scan.Includes(s)
	s, _ = scan.With(s, includes...)
	return one(r, "", " ", "\n// other\n") + s + one(r, " ", "// other", "\nconst other = 1;", " @ include", `"`)
}

// E7: a change of one file's text that leaves its includes turns that module and its users, and no Path, no Need.
func TestWhatAChangeTurns(t *testing.T) {
	r := newMaker(7, false)
	turned := 0
	for range 9000 {
		entries := grown(t, r.entries()...)
		start := one(r.Rand, modulePaths...)
		old, told := deps.Close(newView(t, entries...), start, 9)
		if len(told) > 0 {
			continue
		}
		at := old[r.IntN(len(old))].Path
		if r.IntN(3) == 0 {
			at = one(r.Rand, modulePaths...)
		}
		was, _ := tree.Find(entries, at)
		other, e := tree.Put(entries, f(at, otherText(r.Rand, was.Data)))
		if e != api.OK {
			t.Fatal(e)
		}
		now, told := deps.Close(newView(t, other...), start, 9)
		if shown(now, told) != shown(old, nil) {
			t.Fatalf("%s, not %s", shown(now, told), shown(old, nil))
		}
		users := deps.Users(now, at)
		var want []string
		for _, u := range now {
			if u.Path == at || slices.Contains(users, u.Path) {
				want = append(want, u.Path)
			}
		}
		if len(want) > 1 {
			turned++
		}
		holdChanged(t, old, now, want...)
		holdChanged(t, now, old, want...)
		holdChanged(t, now, now)
	}
	if turned < 500 {
		t.Error("too few changes:", turned)
	}
}
