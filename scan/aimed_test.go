package scan_test

import (
	"slices"
	"strings"
	"testing"

	"treadle/api"
	"treadle/scan"
)

// at are includes of paths, each at a place of its own, from 10 on.
func at(paths ...string) []api.Include {
	var l []api.Include
	for i, p := range paths {
		l = append(l, in(p, "n", 10+i))
	}
	return l
}

// P13.3: the chapter's example, and what else may be aimed at.
func TestAimed(t *testing.T) {
	for _, c := range []struct {
		module      string
		paths, want []string
	}{
		{"lib/x.m", []string{"a.m", "./b", "../c"}, []string{"a.m", "lib/b", "c"}},
		{"x.m", nil, nil},
		{"x.m", []string{"x.m", "x.m", "./x.m"}, []string{"x.m", "x.m", "x.m"}},
		{"x.m", []string{"./a", "a//b/", "a/../b", "a/./b", ".//a"}, []string{"a", "a/b", "b", "a/b", "a"}},
		{"a/b/c/d", []string{"../e", "../../e", "../../../e", "./../e", "./e/../f", "e/../f"}, []string{"a/b/e", "a/e", "e", "a/b/e", "a/b/c/f", "f"}},
		{"a/b/c/d", []string{"..", "../..", "."}, []string{"a/b", "a", "a/b/c"}},
		{"a/b", []string{"...", ".a", "..a", "..a/b", ".a/../b"}, []string{"...", ".a", "..a", "..a/b", "b"}},
		{strings.Repeat("d/", 31) + "f", []string{"./g", "../../g"}, []string{strings.Repeat("d/", 31) + "g", strings.Repeat("d/", 29) + "g"}},
		{"if", []string{strings.Repeat("n", 64)}, []string{strings.Repeat("n", 64)}},
		{"d/x", []string{strings.Repeat("./", 2047) + "e/", strings.Repeat("a/../", 819) + "b"}, []string{"d/e", "b"}},
	} {
		if l, f := scan.Aimed(c.module, at(c.paths...)); !slices.Equal(l, c.want) || f != (api.Fault{}) {
			t.Errorf("Aimed(%s, %.60q): %q, %v", c.module, c.paths, l, f)
		}
	}
	// The Names have no part.
	if l, f := scan.Aimed("x", []api.Include{in("a", "if", 0), in("b", "", 0)}); !slices.Equal(l, []string{"a", "b"}) || f != (api.Fault{}) {
		t.Error(l, f)
	}
}

// P13.3: a module at the root, or at no path, is told first, and at 0.
func TestAimedFromNoFile(t *testing.T) {
	for _, l := range [][]api.Include{nil, at("a"), at("/a", "../../.."), {in("a", "", 0)}} {
		if p, f := scan.Aimed("", l); len(p) != 0 || f != fault(api.ErrRoot, 0) {
			t.Error(p, f)
		}
		for _, module := range []string{"/", "/x", "x/", "a//b", ".", "..", "./x", "../x", "a/./b", "a/../b", "a b", "x\x00", "é", strings.Repeat("n", 65), strings.Repeat("d/", 32) + "f", strings.Repeat("a", 70000)} {
			if p, f := scan.Aimed(module, l); len(p) != 0 || f != fault(api.ErrPath, 0) {
				t.Errorf("Aimed(%.60q): %q, %v", module, p, f)
			}
		}
	}
}

// P13.3: the first include that has an error, or leads to the root, is told at its At.
func TestAimedFaults(t *testing.T) {
	for _, c := range []struct {
		module, path string
		why          api.Errno
	}{
		{"x.m", "../c", api.ErrEscape}, {"x.m", ".", api.ErrRoot}, {"x.m", "", api.ErrRoot}, {"x.m", "./", api.ErrRoot}, {"x.m", "..", api.ErrEscape}, {"x.m", "a/..", api.ErrRoot}, {"x.m", "a/../..", api.ErrEscape},
		{"a/x.m", "..", api.ErrRoot}, {"a/x.m", "../..", api.ErrEscape}, {"a/x.m", "../../c", api.ErrEscape}, {"a/x.m", "b/../../c", api.ErrEscape}, {"a/x.m", "./..", api.ErrRoot}, {"a/b/x.m", "a/..", api.ErrRoot}, {"a/b/x.m", "../b/../..", api.ErrRoot},
		{"a/x.m", "/c", api.ErrAbsolute}, {"a/x.m", "/", api.ErrAbsolute}, {"a/x.m", "c d", api.ErrName}, {"a/x.m", "c/\x00", api.ErrName}, {"a/x.m", "./" + strings.Repeat("n", 65), api.ErrName},
		{"a/x.m", strings.Repeat("a/", 2049), api.ErrWritten}, {"a/x.m", strings.Repeat("a/", 2048), api.ErrDeep}, {"a/x.m", strings.Repeat("a/", 32) + "b", api.ErrDeep}, {strings.Repeat("d/", 31) + "f", "./a/b", api.ErrDeep},
	} {
		if p, f := scan.Aimed(c.module, at(c.path)); len(p) != 0 || f != fault(c.why, 10) {
			t.Errorf("Aimed(%s, %.60q): %q, %v", c.module, c.path, p, f)
		}
		if p, f := scan.Aimed(c.module, at("a", "./b", c.path, "/c", "../../..", ".")); len(p) != 0 || f != fault(c.why, 12) {
			t.Errorf("Aimed(%s, %.60q): %q, %v", c.module, c.path, p, f)
		}
	}
	// At is whatever the include says.
	for _, place := range []int{-1, 0, 7, 1 << 40, -1 << 63} {
		if p, f := scan.Aimed("x.m", []api.Include{in("a", "", 3), in("../c", "", place)}); len(p) != 0 || f != fault(api.ErrEscape, place) {
			t.Error(p, f)
		}
	}
}
