package deps_test

import (
	"fmt"
	"slices"
	"strings"
	"testing"

	"treadle/api"
	"treadle/deps"
)

// bare is a unit of which Users looks at nothing else.
func bare(p string, needs ...string) api.Unit { return api.Unit{Path: p, Needs: needs} }

// bareRow reads units of a line: each a Path, and its Needs behind a colon.
func bareRow(line string) []api.Unit {
	var l []api.Unit
	for _, part := range strings.Split(line, ";") {
		p, needs, _ := strings.Cut(part, ":")
		l = append(l, bare(strings.TrimSpace(p), strings.Fields(needs)...))
	}
	return l
}

func holdUsers(t *testing.T, l []api.Unit, p string, want ...string) {
	t.Helper()
	got := deps.Users(l, p)
	if !slices.Equal(got, want) || !slices.Equal(slowUsers(l, p), want) {
		t.Errorf("Users of %q in %s: %q, not %q", p, shown(l, nil), got, want)
	}
}

// E3: who needs a path, and who needs those, in the row's order.
func TestUsers(t *testing.T) {
	l := units(t, "a.m", three()...)
	holdUsers(t, l, "c.m", "b.m", "a.m")
	holdUsers(t, l, "b.m", "a.m")
	holdUsers(t, l, "a.m")
	for _, x := range []struct{ row, p, want string }{
		{"c; b: c; a: b", "c", "b a"}, {"c; b: c; a: b", "b", "a"}, {"c; b: c; a: b", "a", ""},
		{"d; c: d; b: d; a: c b", "d", "c b a"}, {"d; c: d; b: d; a: c b", "b", "a"},
		{"e; d: e; c; b: c; a: b d", "c", "b a"}, {"e; d: e; c; b: c; a: b d", "e", "d a"},
		{"b; a: b b b", "b", "a"},
		// In any order, the users behind or ahead.
		{"a: b; b: c; c", "c", "a b"}, {"b: c; c; a: b", "c", "b a"}, {"a: b; c; b: c", "c", "a b"},
		// Rings: a path may be its own user.
		{"a: a", "a", "a"}, {"a: b; b: a", "a", "a b"}, {"a: b; b: a", "b", "a b"}, {"a: b; b: c; c: a; d", "b", "a b c"}, {"a: b; b: b", "b", "a b"}, {"a: b; b: b", "a", ""},
		// A need is whatever stands there, a unit's Path or not.
		{"a: x; b: a", "x", "a b"}, {"a: x; b: y", "y", "b"}, {"a: b; c: a", "b", "a c"},
		{"c; b: c; a: b", "x", ""}, {"c; b: c; a: b", "c.m", ""}, {"c; b: c; a: b", "C", ""},
		{"a//b: /; ..: a//b; é: ..", "/", "a//b .. é"},
	} {
		holdUsers(t, bareRow(x.row), x.p, strings.Fields(x.want)...)
	}
	holdUsers(t, []api.Unit{bare("", "a"), bare("b", ""), bare("c", "\x00")}, "a", "", "b")
	holdUsers(t, []api.Unit{bare("", "a"), bare("b", ""), bare("c", "\x00")}, "", "b")
	holdUsers(t, []api.Unit{bare("", "a"), bare("b", ""), bare("c", "\x00")}, "\x00", "c")
	holdUsers(t, []api.Unit{{}}, "")
}

// E3: of two units of one Path the first counts.
func TestUsersOfOnePath(t *testing.T) {
	for _, x := range []struct{ row, p, want string }{
		{"a: x; a: y", "x", "a"}, {"a: x; a: y", "y", ""}, {"a: x; a: x", "x", "a"}, {"a; a: x", "x", ""}, {"a: x; a", "x", "a"},
		{"a: y; b: a; a: x", "x", ""}, {"a: y; b: a; a: x", "y", "a b"}, {"b: a; a: x; a: y; c: b; b: z", "x", "b a c"}, {"b: a; a: x; a: y; c: b; b: z", "y", ""}, {"b: a; a: x; a: y; c: b; b: z", "z", ""},
		{"a: b; b; b: a", "a", ""}, {"a: b; b: a; b", "a", "a b"},
	} {
		holdUsers(t, bareRow(x.row), x.p, strings.Fields(x.want)...)
	}
}

// E3: nil and empty lists.
func TestNoUnits(t *testing.T) {
	row := rightRow(t)
	for _, l := range [][]api.Unit{nil, {}, row[:0]} {
		for _, p := range []string{"", "a.m", "x", "a//b"} {
			holdUsers(t, l, p)
		}
		holdChanged(t, l, nil)
		holdChanged(t, nil, l)
		holdChanged(t, row, l)
		holdChanged(t, l, row, "lib/c.m", "d.m", "b.m", "a.m")
	}
}

// E3: users stand as far apart as can be told, and in a ring, and many of one.
func TestManyUsers(t *testing.T) {
	const n = 20000
	name := func(i int) string { return fmt.Sprintf("m%d", i) }
	var row, star []api.Unit
	var want []string
	for i := range n {
		row = append(row, bare(name(i), name(i+1)))
		star = append(star, bare(name(i), "hub"))
		want = append(want, name(i))
	}
	if got := deps.Users(row, name(n)); !slices.Equal(got, want) {
		t.Error(len(got))
	}
	if got := deps.Users(star, "hub"); !slices.Equal(got, want) {
		t.Error(len(got))
	}
	slices.Reverse(row)
	if got := deps.Users(row, name(1)); !slices.Equal(got, want[:1]) {
		t.Error(len(got))
	}
	row[0].Needs = []string{name(0)}
	slices.Reverse(want)
	if got := deps.Users(row, name(1)); !slices.Equal(got, want) {
		t.Error(len(got))
	}
}

// E3 at all rows of a few units with a few needs.
func TestFewUnits(t *testing.T) {
	paths := []string{"a", "b", "c"}
	needs := [][]string{nil, {"a"}, {"b"}, {"x"}, {"b", "a"}, {"c", "x"}}
	var grow func(l []api.Unit, n int)
	grow = func(l []api.Unit, n int) {
		for _, p := range []string{"a", "b", "c", "x"} {
			if got, want := deps.Users(l, p), slowUsers(l, p); !slices.Equal(got, want) {
				t.Fatalf("Users of %q in %s: %q, not %q", p, shown(l, nil), got, want)
			}
		}
		if n == 0 {
			return
		}
		for _, p := range paths {
			for _, need := range needs {
				grow(append(l, bare(p, need...)), n-1)
			}
		}
	}
	grow(nil, 4)
}

// with is a unit of which Changed looks at nothing else.
func with(p string, whole byte) api.Unit { return api.Unit{Path: p, Whole: api.Digest{31: whole}} }

func holdChanged(t *testing.T, old, now []api.Unit, want ...string) {
	t.Helper()
	got := deps.Changed(old, now)
	if !slices.Equal(got, want) || !slices.Equal(slowChanged(old, now), want) {
		t.Errorf("Changed from %v to %v: %q, not %q", old, now, got, want)
	}
}

// E3: what is new, or has another Whole, in the order of now.
func TestChanged(t *testing.T) {
	a1, a2, b1, b2, c1 := with("a", 1), with("a", 2), with("b", 1), with("b", 2), with("c", 1)
	for _, x := range []struct {
		old, now []api.Unit
		want     string
	}{
		{[]api.Unit{a1}, []api.Unit{a1}, ""}, {[]api.Unit{a1}, []api.Unit{a2}, "a"}, {[]api.Unit{a1}, []api.Unit{b1}, "b"},
		{[]api.Unit{a1, b1}, []api.Unit{b1, a1}, ""}, {[]api.Unit{a1, b1}, []api.Unit{b2, a2}, "b a"}, {[]api.Unit{a1, b1}, []api.Unit{a2, b2}, "a b"}, {[]api.Unit{a1, b1}, []api.Unit{c1, b1, a2}, "c a"},
		{[]api.Unit{a1, b1, c1}, []api.Unit{b1}, ""}, {[]api.Unit{a1}, []api.Unit{c1, a1, b2}, "c b"},
		// Of two units of one Path the first counts, in both.
		{[]api.Unit{a1, a2}, []api.Unit{a1}, ""}, {[]api.Unit{a1, a2}, []api.Unit{a2}, "a"}, {[]api.Unit{a1}, []api.Unit{a1, a2}, ""}, {[]api.Unit{a1}, []api.Unit{a2, a1}, "a"}, {nil, []api.Unit{a1, a2, a1}, "a"}, {[]api.Unit{a1, b1, a2, b2}, []api.Unit{b1, a2, b2, c1, a1, c1}, "a c"},
	} {
		holdChanged(t, x.old, x.now, strings.Fields(x.want)...)
	}
	// A Path is whatever stands there, and nothing else of a unit has a part.
	holdChanged(t, nil, []api.Unit{{}, with("a//b", 1), with("\x00", 0)}, "", "a//b", "\x00")
	holdChanged(t, []api.Unit{{}}, []api.Unit{{}, with("", 1)})
	full := a1
	full.Text, full.Includes, full.Needs, full.Digest = "text", []api.Include{{}}, []string{"b"}, api.Digest{1}
	holdChanged(t, []api.Unit{a1}, []api.Unit{full})
	for at := range 32 {
		turned := a1
		turned.Whole[at] ^= 128
		holdChanged(t, []api.Unit{a1}, []api.Unit{turned}, "a")
	}
}

// E3: of closures, and of one that is one module more.
func TestChangedClosures(t *testing.T) {
	now := three()
	old := units(t, "a.m", now...)
	now[2].Data = "// c"
	holdChanged(t, old, units(t, "a.m", now...), "c.m", "b.m", "a.m")
	now[2].Data, now[1].Data = "", inc("c.m", "d.m")
	grown := units(t, "a.m", append(now, f("d.m", ""))...)
	holdChanged(t, old, grown, "d.m", "b.m", "a.m")
	holdChanged(t, grown, old, "b.m", "a.m")
	holdChanged(t, old, units(t, "b.m", three()...))
	holdChanged(t, units(t, "b.m", three()...), old, "a.m")
}

// E3 at rows of any kind.
func TestRandomUnits(t *testing.T) {
	r := newMaker(3, false)
	paths := []string{"a", "b", "c", "d", "e", ""}
	row := func() []api.Unit {
		var l []api.Unit
		for range r.IntN(9) {
			u := with(one(r.Rand, paths...), byte(r.IntN(2)))
			for range r.IntN(3) {
				u.Needs = append(u.Needs, one(r.Rand, paths...))
			}
			l = append(l, u)
		}
		return l
	}
	for range 30000 {
		old, now := row(), row()
		p := one(r.Rand, paths...)
		holdUsers(t, now, p, slowUsers(now, p)...)
		holdChanged(t, old, now, slowChanged(old, now)...)
	}
}
