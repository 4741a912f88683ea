package deps_test

import (
	"fmt"
	"math/rand/v2"
	"strings"
	"testing"

	"treadle/api"
	"treadle/deps"
	"treadle/tree"
	"treadle/view"
)

func f(p, s string) api.Entry { return api.Entry{Path: p, Kind: api.KindFile, Data: s} }
func d(p string) api.Entry    { return api.Entry{Path: p, Kind: api.KindDir} }
func l(p, s string) api.Entry { return api.Entry{Path: p, Kind: api.KindLink, Data: s} }

// inc is a module's text with includes of written paths, each of 18 bytes and the path's.
func inc(written ...string) string {
	s := ""
	for i, p := range written {
		s += fmt.Sprintf("include %q as n%d; ", p, i%10)
	}
	return s
}

// grown is a tree of entries, with the directories that they stand in.
func grown(t *testing.T, entries ...api.Entry) []api.Entry {
	t.Helper()
	all, e := tree.Make(entries...)
	if e != api.OK {
		t.Fatalf("no tree: %d: %v", e, entries)
	}
	return all
}

func newView(t *testing.T, entries ...api.Entry) *view.View {
	t.Helper()
	v, e := view.New(grown(t, entries...))
	if e != api.OK {
		t.Fatalf("no view: %d", e)
	}
	return v
}

// shown is what Close tells, as a line: of each unit its Path and its Needs, if it has some, or of each diagnostic all that it has.
func shown(units []api.Unit, told []api.Diag) string {
	var parts []string
	for _, u := range units {
		part := u.Path
		if len(u.Needs) > 0 {
			part += ": " + strings.Join(u.Needs, " ")
		}
		parts = append(parts, part)
	}
	for _, x := range told {
		parts = append(parts, shownDiag(x.Path, x.Why, x.At))
	}
	return strings.Join(parts, "; ")
}

func shownDiag(p string, why api.Errno, at int) string { return fmt.Sprintf("{%s %d %d}", p, why, at) }

// holdClose asks for a closure over entries, and holds it against a line and against the slow one.
func holdClose(t *testing.T, want, start string, most int, entries ...api.Entry) {
	t.Helper()
	v := newView(t, entries...)
	units, told := deps.Close(v, start, most)
	if got := shown(units, told); got != want {
		t.Errorf("Close(%q, %d): %s, not %s", start, most, got, want)
	}
	holdSlow(t, v, newView(t, entries...), start, most)
}

// units are those of a closure that has no fault.
func units(t *testing.T, start string, entries ...api.Entry) []api.Unit {
	t.Helper()
	l, told := deps.Close(newView(t, entries...), start, 1000)
	if len(told) > 0 {
		t.Fatalf("of %q: %v", start, told)
	}
	return l
}

func one[T any](r *rand.Rand, l ...T) T { return l[r.IntN(len(l))] }

// maker makes trees of modules, by chance; wild ones have includes that are wrong, too.
type maker struct {
	*rand.Rand
	wild bool
}

func newMaker(seed uint64, wild bool) maker { return maker{rand.New(rand.NewPCG(16, seed)), wild} }

var modulePaths = []string{"a.m", "b.m", "c.m", "lib/a.m", "lib/b.m", "lib/in/a.m"}

// written are texts that lead somewhere from each directory, in all trees that tree makes.
var written = []string{"a.m", "b.m", "c.m", "./a.m", "lib/a.m", "lib/b.m", "lib/in/a.m", "lib//b.m", "lib/../c.m", "one.m", "to/b.m", "to/a.m", "in/a.m"}

var wrongWritten = []string{"../a.m", "../../b.m", "../../../c.m", "./b.m", "./in/a.m", "", ".", "..", "lib", "to", "/a.m", "a m", "none", "lib/none", "a.m/x", "self", "out", "top", strings.Repeat("d/", 40), "lost", "lib/in/none/x", "./.."}

func (r maker) text() string {
	s := ""
	for i := range one(r.Rand, 0, 0, 1, 1, 2, 3) {
		p := one(r.Rand, written...)
		if r.wild && r.IntN(5) == 0 {
			p = one(r.Rand, wrongWritten...)
		}
		s += one(r.Rand, "", " ", "// x\n") + fmt.Sprintf("include %q as n%d;", p, i)
	}
	if r.wild && r.IntN(12) == 0 {
		s += one(r.Rand, "include", "include x", "include @", `include "a.m" as`)
	}
	return s + one(r.Rand, "", "", "\n", " const c = 1;", "@", " // end")
}

// entries are of a tree in which every written path leads to a module; of a wild one some lack.
func (r maker) entries() []api.Entry {
	var all []api.Entry
	for _, p := range modulePaths {
		if !r.wild || r.IntN(12) > 0 {
			all = append(all, f(p, r.text()))
		}
	}
	// Not the same in lib: a module is known by where it stands, and aims from there.
	all = append(all, l("one.m", one(r.Rand, "lib/in/a.m", "b.m")), l("to", one(r.Rand, "lib", "./lib/in/..")), d("in"), l("in/a.m", "../"+one(r.Rand, "a.m", "to/in/a.m")))
	if r.wild {
		all = append(all, l("self", "self"), l("out", "../out"), l("top", "."), l("lost", one(r.Rand, "none", "/", "lib/b.m", "lib/in/lost")))
	}
	return all
}
