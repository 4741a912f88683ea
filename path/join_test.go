package path_test

import (
	"slices"
	"strings"
	"testing"

	"treadle/api"
	"treadle/path"
)

// slowJoin is the chapter's own words.
func slowJoin(base string, more ...string) (string, api.Errno) {
	l, is := slowNames(base)
	if !is {
		return "", api.ErrPath
	}
	for _, s := range more {
		if len(s) > 4096 {
			return "", api.ErrWritten
		}
		if len(s) > 0 && s[0] == '/' {
			return "", api.ErrAbsolute
		}
		for _, piece := range strings.Split(s, "/") {
			if piece == "" || piece == "." {
				continue
			}
			if piece == ".." && len(l) == 0 {
				return "", api.ErrEscape
			}
			if piece == ".." {
				l = slices.Clone(l[:len(l)-1])
				continue
			}
			if !slowName(piece) {
				return "", api.ErrName
			}
			l = append(slices.Clone(l), piece)
		}
	}
	if len(l) > 32 {
		return "", api.ErrDeep
	}
	return strings.Join(l, "/"), api.OK
}

// A2: a written path is cleaned.
func TestClean(t *testing.T) {
	for _, c := range []struct {
		s, want string
		e       api.Errno
	}{
		{"a//b/./c/../d/", "a/b/d", api.OK},
		{"", "", api.OK},
		{".", "", api.OK},
		{"./", "", api.OK},
		{"././/.", "", api.OK},
		{"a/..", "", api.OK},
		{"a/../", "", api.OK},
		{"a/b/../..", "", api.OK},
		{"a/", "a", api.OK},
		{"a////", "a", api.OK},
		{"a/.../b", "a/.../b", api.OK},
		{"..a/b..", "..a/b..", api.OK},
		{"../a", "", api.ErrEscape},
		{"..", "", api.ErrEscape},
		{"./..", "", api.ErrEscape},
		{"a/../..", "", api.ErrEscape},
		{"a/../../a", "", api.ErrEscape},
		{"/a", "", api.ErrAbsolute},
		{"/", "", api.ErrAbsolute},
		{"//", "", api.ErrAbsolute},
		{"a b", "", api.ErrName},
		{"a/b/\x00/..", "", api.ErrName},
		{"\\a", "", api.ErrName},
		{long(64), long(64), api.OK},
		{long(65), "", api.ErrName},
		{long(65) + "/..", "", api.ErrName},
	} {
		if got, e := path.Clean(c.s); got != c.want || e != c.e {
			t.Errorf("Clean(%q): %q, %d", c.s, got, e)
		}
	}
}

// A2: of several faults the first one is told, length and the slash ahead of all pieces, depth behind them.
func TestCleanOrderOfFaults(t *testing.T) {
	for _, c := range []struct {
		s string
		e api.Errno
	}{
		{"/" + strings.Repeat("a b/../../", 500), api.ErrWritten},
		{strings.Repeat("../", 1400), api.ErrWritten},
		{"/../a b", api.ErrAbsolute},
		{"/a b", api.ErrAbsolute},
		{"../a b", api.ErrEscape},
		{"a b/../..", api.ErrName},
		{"a/../../a b", api.ErrEscape},
		{"a/a b/../../..", api.ErrName},
		{deep(33) + "/a b", api.ErrName},
		{"..//" + deep(33), api.ErrEscape},
		{deep(33), api.ErrDeep},
	} {
		if got, e := path.Clean(c.s); got != "" || e != c.e {
			t.Errorf("Clean(%.40q): %q, %d, not %d", c.s, got, e, c.e)
		}
	}
}

// A2: 32 and 33 names, and more on the way than at the end.
func TestCleanDepth(t *testing.T) {
	for _, c := range []struct {
		s, want string
		e       api.Errno
	}{
		{deep(32), deep(32), api.OK},
		{deep(32) + "/.//", deep(32), api.OK},
		{deep(33), "", api.ErrDeep},
		{deep(33) + "/..", deep(32), api.OK},
		{deep(33) + "/../b", "", api.ErrDeep},
		{deep(800) + strings.Repeat("/..", 768), deep(32), api.OK},
		{deep(819) + strings.Repeat("/..", 819), "", api.OK},
		{deep(800) + strings.Repeat("/..", 801), "", api.ErrEscape},
		{deep(800) + strings.Repeat("/..", 767), "", api.ErrDeep},
	} {
		if got, e := path.Clean(c.s); got != c.want || e != c.e {
			t.Errorf("Clean(%.20q of %d): %q, %d", c.s, len(c.s), got, e)
		}
	}
}

// A2: a written path of 4096 bytes is cleaned, and one of 4097 is not.
func TestCleanLength(t *testing.T) {
	for _, end := range []string{"/", "/.", "/a"} {
		s := "b/" + strings.Repeat("./", 4096)
		s = s[:4096-len(end)] + end
		want, _ := slowJoin("", s)
		if got, e := path.Clean(s); got != want || e != api.OK || !strings.HasPrefix(got, "b") {
			t.Errorf("Clean of 4096 bytes: %q, %d", got, e)
		}
		if got, e := path.Clean(s + "/"); got != "" || e != api.ErrWritten {
			t.Errorf("Clean of 4097 bytes: %q, %d", got, e)
		}
	}
	if _, e := path.Clean("/" + strings.Repeat("a", 4095)); e != api.ErrAbsolute {
		t.Errorf("absolute, of 4096 bytes: %d", e)
	}
	if _, e := path.Clean("/" + strings.Repeat("a", 4096)); e != api.ErrWritten {
		t.Errorf("absolute, of 4097 bytes: %d", e)
	}
}

// A2: written paths are joined to a path, one behind the other.
func TestJoin(t *testing.T) {
	half := strings.Repeat("./", 1500)
	for _, c := range []struct {
		base string
		more []string
		want string
		e    api.Errno
	}{
		{"a/b", []string{"../c", "d"}, "a/c/d", api.OK},
		{"", nil, "", api.OK},
		{"a/b", nil, "a/b", api.OK},
		{deep(32), nil, deep(32), api.OK},
		{"a/b", []string{""}, "a/b", api.OK},
		{"a/b", []string{".", "", "./"}, "a/b", api.OK},
		{"a/b", []string{"..", ".."}, "", api.OK},
		{"a/b", []string{"../.."}, "", api.OK},
		{"a/b", []string{"../../.."}, "", api.ErrEscape},
		{"a/b", []string{"..", "..", ".."}, "", api.ErrEscape},
		{"a/b", []string{"..", "..", "c"}, "c", api.OK},
		{"a", []string{half, half, "b"}, "a/b", api.OK},
		{deep(32), []string{"a"}, "", api.ErrDeep},
		{deep(32), []string{"a", ".."}, deep(32), api.OK},
		{deep(32), []string{"a/b/c", "../../.."}, deep(32), api.OK},
		{deep(32), []string{"a", "../b"}, "", api.ErrDeep},
		{deep(32), []string{"..", "b"}, deep(31) + "/b", api.OK},
	} {
		if got, e := path.Join(c.base, c.more...); got != c.want || e != c.e {
			t.Errorf("Join(%q, %q): %q, %d", c.base, c.more, got, e)
		}
	}
}

// A2: each of the written paths is looked at in its turn, whatever comes behind it.
func TestJoinOrderOfFaults(t *testing.T) {
	tooLong := strings.Repeat("/", 4097)
	for _, c := range []struct {
		base string
		more []string
		e    api.Errno
	}{
		{"a/", []string{tooLong, "/a", "a b", "../.."}, api.ErrPath},
		{"/a", nil, api.ErrPath},
		{deep(33), []string{".."}, api.ErrPath},
		{"a", []string{tooLong, "/a", "a b"}, api.ErrWritten},
		{"a", []string{"/a", tooLong, "a b"}, api.ErrAbsolute},
		{"a", []string{"a b", tooLong, "/a"}, api.ErrName},
		{"a", []string{"../..", "/a", tooLong}, api.ErrEscape},
		{"a", []string{"b", "c", "/d", "e f"}, api.ErrAbsolute},
		{"a", []string{"", "/"}, api.ErrAbsolute},
		{deep(32), []string{"a", "a b"}, api.ErrName},
		{deep(32), []string{"a", "/"}, api.ErrAbsolute},
		{deep(32), []string{"a", tooLong}, api.ErrWritten},
	} {
		if got, e := path.Join(c.base, c.more...); got != "" || e != c.e {
			t.Errorf("Join(%.40q, %.40q): %q, %d, not %d", c.base, c.more, got, e, c.e)
		}
	}
	for _, s := range noPaths() {
		if got, e := path.Join(s, "a"); got != "" || e != api.ErrPath {
			t.Errorf("Join(%q): %q, %d", s, got, e)
		}
	}
}

// A2, A6: Join against the chapter's own words; whatever is answered is a path.
func TestJoinAtRandom(t *testing.T) {
	r := source()
	answered := 0
	for range 20000 {
		base := somePath(r)
		more := make([]string, r.IntN(4))
		for i := range more {
			more[i] = someWritten(r)
		}
		want, e := slowJoin(base, more...)
		got, err := path.Join(base, more...)
		if got != want || err != e {
			t.Fatalf("Join(%q, %q): %q, %d, not %q, %d", base, more, got, err, want, e)
		}
		if e != api.OK {
			continue
		}
		answered++
		if path.Check(got) != api.OK {
			t.Errorf("Join(%q, %q): %q is no path", base, more, got)
		}
	}
	if answered < 2000 {
		t.Errorf("only %d answered", answered)
	}
}

// A3: a text aims from its directory on, if it begins with a piece of dots, and else from the root.
func TestAim(t *testing.T) {
	for _, c := range []struct {
		dir, s, want string
		e            api.Errno
	}{
		{"a/b", "./c", "a/b/c", api.OK},
		{"a/b", "c", "c", api.OK},
		{"a", "../../c", "", api.ErrEscape},
		{"a/b", ".", "a/b", api.OK},
		{"a/b", "..", "a", api.OK},
		{"a/b", "../c", "a/c", api.OK},
		{"a/b", "./../c", "a/c", api.OK},
		{"a/b", "", "", api.OK},
		{"a/b", ".c", ".c", api.OK},
		{"a/b", "...", "...", api.OK},
		{"a/b", "..c/./d", "..c/d", api.OK},
		{"a/b", "c/../..", "", api.ErrEscape},
		{"a/b", "c/..", "", api.OK},
		{"", "./c", "c", api.OK},
		{"", "../c", "", api.ErrEscape},
		{"a/b", "/c", "", api.ErrAbsolute},
		{"a/b", "/./c", "", api.ErrAbsolute},
		{"a/b", "./c d", "", api.ErrName},
		{"a/b", "c d", "", api.ErrName},
		{deep(32), "./c", "", api.ErrDeep},
		{deep(32), "c", "c", api.OK},
		{deep(32), "../c", deep(31) + "/c", api.OK},
		{"a", "./" + strings.Repeat("/", 4095), "", api.ErrWritten},
		{"a", "./" + strings.Repeat("/", 4094), "a", api.OK},
		{"a", strings.Repeat("/", 4097), "", api.ErrWritten},
	} {
		if got, e := path.Aim(c.dir, c.s); got != c.want || e != c.e {
			t.Errorf("Aim(%q, %.40q): %q, %d", c.dir, c.s, got, e)
		}
	}
}

// A3: a directory that is no path is told ahead of all, whether the text would lead from it or not.
func TestAimOfNoPath(t *testing.T) {
	for _, dir := range noPaths() {
		for _, s := range []string{"c", "./c", "../../..", "/c", "c d", strings.Repeat("/", 4097)} {
			if got, e := path.Aim(dir, s); got != "" || e != api.ErrPath {
				t.Errorf("Aim(%q, %.20q): %q, %d", dir, s, got, e)
			}
		}
	}
}

// A6: Clean of a path is itself, and so is Clean of what was cleaned; Aim answers paths, too.
func TestCleanAgain(t *testing.T) {
	r := source()
	for range 5000 {
		p := somePath(r)
		if got, e := path.Clean(p); got != p || e != api.OK {
			t.Errorf("Clean(%q): %q, %d", p, got, e)
		}
		s := someWritten(r)
		once, e := path.Clean(s)
		if e != api.OK {
			continue
		}
		if twice, e := path.Clean(once); twice != once || e != api.OK {
			t.Errorf("Clean(Clean(%q)): %q, %d", s, twice, e)
		}
		if aim, e := path.Aim(p, s); e == api.OK && path.Check(aim) != api.OK {
			t.Errorf("Aim(%q, %q): %q", p, s, aim)
		}
	}
}

// A6: bytes of any kind lead nowhere but to a path.
func TestNothingEscapes(t *testing.T) {
	r := source()
	bytesAt := "ab.././/-_\x00 \xff"
	for range 20000 {
		b := make([]byte, r.IntN(12))
		for i := range b {
			b[i] = bytesAt[r.IntN(len(bytesAt))]
		}
		for _, call := range []func(string) (string, api.Errno){
			path.Clean,
			func(s string) (string, api.Errno) { return path.Join("a/b", s) },
			func(s string) (string, api.Errno) { return path.Aim("a/b", s) },
		} {
			if p, e := call(string(b)); e != api.OK && p != "" || path.Check(p) != api.OK {
				t.Fatalf("%q: %q, %d", b, p, e)
			}
		}
	}
}

// A6: without a piece .. a written path stays at or below its base.
func TestJoinStaysBelow(t *testing.T) {
	r := source()
	for range 5000 {
		base, s := somePath(r), someWritten(r)
		if slices.Contains(strings.Split(s, "/"), "..") {
			continue
		}
		got, e := path.Join(base, s)
		if e != api.OK {
			continue
		}
		if below, _ := path.Above(base, got); got != base && !below {
			t.Errorf("Join(%q, %q): %q", base, s, got)
		}
	}
}

// A7: to join at once is to join one by one.
func TestJoinOneByOne(t *testing.T) {
	r := source()
	both := 0
	for range 10000 {
		base, a, b := somePath(r), someWritten(r), someWritten(r)
		first, e := path.Join(base, a)
		if e != api.OK {
			continue
		}
		second, e := path.Join(first, b)
		if e != api.OK {
			continue
		}
		both++
		if once, e := path.Join(base, a, b); once != second || e != api.OK {
			t.Errorf("Join(%q, %q, %q): %q, %d, not %q", base, a, b, once, e, second)
		}
	}
	if both < 1000 {
		t.Errorf("only %d answered", both)
	}
	// At once there may be more names on the way than one by one.
	if got, e := path.Join(deep(32), "a", ".."); got != deep(32) || e != api.OK {
		t.Errorf("%q, %d", got, e)
	}
	if _, e := path.Join(deep(32), "a"); e != api.ErrDeep {
		t.Error(e)
	}
}
