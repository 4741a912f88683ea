package path_test

import (
	"math/rand/v2"
	"regexp"
	"slices"
	"strings"
	"testing"

	"treadle/api"
	"treadle/path"
)

var nameForm = regexp.MustCompile(`\A[A-Za-z0-9._-]{1,64}\z`)

// slowName is the chapter's own words.
func slowName(s string) bool {
	return nameForm.MatchString(s) && s != "." && s != ".."
}

// slowNames are a path's names, and whether the text is one.
func slowNames(s string) ([]string, bool) {
	if s == "" {
		return nil, true
	}
	l := strings.Split(s, "/")
	for _, name := range l {
		if !slowName(name) {
			return nil, false
		}
	}
	return l, len(l) <= 32
}

func source() *rand.Rand { return rand.New(rand.NewPCG(4, 1)) }

// somePath is a path of few, like names, so that two of them often begin alike.
func somePath(r *rand.Rand) string {
	choice := []string{"a", "b", "a-b", "ab", "a.b", "A", "a_", "0", "...", "-"}
	l := make([]string, r.IntN(5))
	for i := range l {
		l[i] = choice[r.IntN(len(choice))]
	}
	return strings.Join(l, "/")
}

// someWritten is a written path whose pieces are mostly right.
func someWritten(r *rand.Rand) string {
	choice := []string{"a", "b", "a-b", "..", "..", ".", "", "...", ".a", "c"}
	l := make([]string, r.IntN(7))
	for i := range l {
		l[i] = choice[r.IntN(len(choice))]
		if r.IntN(40) == 0 {
			l[i] = "a b"
		}
	}
	return strings.Join(l, "/")
}

func row(n int, name string) []string { return slices.Repeat([]string{name}, n) }

func deep(n int) string { return strings.Join(row(n, "a"), "/") }

func long(n int) string { return strings.Repeat("n", n) }

// roomy is a copy of l with spare room behind its end, which is filled, too.
func roomy(l []string) []string {
	b := slices.Repeat([]string{"spare"}, len(l)+4)
	copy(b, l)
	return b[:len(l)]
}

// noPaths are texts of which each is no path for a reason of its own.
func noPaths() []string {
	return []string{
		"/", "/a", "a/", "a//b", "//", ".", "..", "./a", "../a", "a/.", "a/..", "a/./b", "a/../b",
		"a b", "a/b c", "a\\b", "é", "a/\x00", "\xff", "a/" + long(65), long(65), deep(33), deep(33) + "/", deep(4000),
	}
}

// A1: of one byte, the letters, digits and _ and - are names, and no other one is.
func TestNameOfOneByte(t *testing.T) {
	right := 0
	for c := range 256 {
		s := string([]byte{byte(c)})
		want := api.ErrName
		if slowName(s) {
			want = api.OK
			right++
		}
		if got := path.Name(s); got != want {
			t.Errorf("Name(%q): %d, not %d", s, got, want)
		}
	}
	if right != 26+26+10+2 {
		t.Errorf("%d names of one byte", right)
	}
}

// A1: each byte may stand, or not, at the beginning, in the middle and at the end alike.
func TestNameOfThreeBytes(t *testing.T) {
	for c := range 256 {
		for at := range 3 {
			b := []byte("xyz")
			b[at] = byte(c)
			s := string(b)
			if got := path.Name(s) == api.OK; got != slowName(s) {
				t.Errorf("Name(%q): %v", s, got)
			}
		}
	}
}

// A1: the edges of what a name may be.
func TestNameEdges(t *testing.T) {
	for _, s := range []string{"a", "...", "....", ".a", "a.", "..a", "a..", "-", "_", "--", "-._", "AZaz09", long(63), long(64), strings.Repeat(".", 64)} {
		if e := path.Name(s); e != api.OK {
			t.Errorf("Name(%q): %d", s, e)
		}
	}
	for _, s := range []string{"", ".", "..", "/", "a/b", "a/", "/a", "a b", " a", "a\n", "a\x00", "é", "aé", "@", "[", "`", "{", ":", ",", "+", long(65), long(4097)} {
		if e := path.Name(s); e != api.ErrName {
			t.Errorf("Name(%q): %d", s, e)
		}
	}
}

// A1: what is a path, and its names.
func TestCheckAndNames(t *testing.T) {
	for _, s := range []string{"", "a", "a/b", "a/.../b", "A/_/-/0", deep(31), deep(32), long(64), long(64) + "/" + long(64), strings.Join(row(32, long(64)), "/")} {
		if e := path.Check(s); e != api.OK {
			t.Errorf("Check(%q): %d", s, e)
		}
		want, _ := slowNames(s)
		if got, e := path.Names(s); e != api.OK || !slices.Equal(got, want) {
			t.Errorf("Names(%q): %q, %d", s, got, e)
		}
	}
}

// A1: what is no path has no names.
func TestCheckOfNoPath(t *testing.T) {
	for _, s := range noPaths() {
		if e := path.Check(s); e != api.ErrPath {
			t.Errorf("Check(%q): %d", s, e)
		}
		if l, e := path.Names(s); e != api.ErrPath || len(l) != 0 {
			t.Errorf("Names(%q): %q, %d", s, l, e)
		}
	}
}

// A1: Check and Names against the chapter's own words.
func TestCheckAtRandom(t *testing.T) {
	r := source()
	for range 4000 {
		s := someWritten(r)
		want, is := slowNames(s)
		e := path.Check(s)
		if (e == api.OK) != is || e != api.OK && e != api.ErrPath {
			t.Errorf("Check(%q): %d", s, e)
		}
		if got, e := path.Names(s); (e == api.OK) != is || !slices.Equal(got, want) {
			t.Errorf("Names(%q): %q, %d", s, got, e)
		}
	}
}

// A1: Of is the path of its names, ErrName ahead of ErrDeep.
func TestOf(t *testing.T) {
	for _, c := range []struct {
		names []string
		want  string
		e     api.Errno
	}{
		{nil, "", api.OK},
		{[]string{"a"}, "a", api.OK},
		{[]string{"a", "b", "..."}, "a/b/...", api.OK},
		{[]string{long(64)}, long(64), api.OK},
		{row(32, "a"), deep(32), api.OK},
		{row(33, "a"), "", api.ErrDeep},
		{row(33, ""), "", api.ErrName},
		{append(row(33, "a"), "."), "", api.ErrName},
		{append([]string{"a b"}, row(40, "a")...), "", api.ErrName},
		{[]string{""}, "", api.ErrName},
		{[]string{"a", ".."}, "", api.ErrName},
		{[]string{"a", "", "b"}, "", api.ErrName},
		{[]string{"a/b"}, "", api.ErrName},
		{[]string{long(65)}, "", api.ErrName},
	} {
		if got, e := path.Of(c.names...); got != c.want || e != c.e {
			t.Errorf("Of(%q): %q, %d", c.names, got, e)
		}
	}
}

// A1: Of and Names undo one another.
func TestOfNames(t *testing.T) {
	r := source()
	for range 2000 {
		p := somePath(r)
		l, _ := path.Names(p)
		if got, e := path.Of(l...); got != p || e != api.OK {
			t.Errorf("Of(Names(%q)): %q, %d", p, got, e)
		}
	}
}

// A4: a path's directory and its last name.
func TestSplit(t *testing.T) {
	for _, c := range []struct {
		s, dir, name string
		e            api.Errno
	}{
		{"a", "", "a", api.OK},
		{"a/b", "a", "b", api.OK},
		{"a/b/...", "a/b", "...", api.OK},
		{deep(32), deep(31), "a", api.OK},
		{"", "", "", api.ErrRoot},
	} {
		if dir, name, e := path.Split(c.s); dir != c.dir || name != c.name || e != c.e {
			t.Errorf("Split(%q): %q, %q, %d", c.s, dir, name, e)
		}
	}
	for _, s := range noPaths() {
		if dir, name, e := path.Split(s); dir != "" || name != "" || e != api.ErrPath {
			t.Errorf("Split(%q): %q, %q, %d", s, dir, name, e)
		}
	}
}

// R4: a list of names is new memory, spare room too.
func TestNamesIsNewMemory(t *testing.T) {
	first, _ := path.Names("a/b/c")
	second, _ := path.Names("a/b/c")
	for i := range first[:cap(first)] {
		first[:cap(first)][i] = "other"
	}
	third, _ := path.Names("a/b/c")
	for _, l := range [][]string{second, third} {
		if !slices.Equal(l, []string{"a", "b", "c"}) {
			t.Errorf("%q", l)
		}
	}
	if s, _ := path.Join("a/b/c", "..", "d"); s != "a/b/d" {
		t.Error(s)
	}
}

// R4: lists that are handed in stay as they are, what lies behind their end too.
func TestListsStay(t *testing.T) {
	for _, c := range []struct {
		list []string
		call func(l []string)
	}{
		{[]string{"a", "b"}, func(l []string) { path.Of(l...) }},
		{[]string{"a", "..", "b"}, func(l []string) { path.Of(l...) }},
		{[]string{"..", "b/c", "../d", "e"}, func(l []string) { path.Join("a/b", l...) }},
		{[]string{"../../.."}, func(l []string) { path.Join("a/b", l...) }},
		{[]string{"a/b/c", "a/b", "a/d"}, func(l []string) { path.Common(l...) }},
		{[]string{"a/b/c", "a/"}, func(l []string) { path.Common(l...) }},
	} {
		l := roomy(c.list)
		want := slices.Clone(l[:cap(l)])
		c.call(l)
		if !slices.Equal(l[:cap(l)], want) {
			t.Errorf("%q became %q", want, l[:cap(l)])
		}
	}
}
