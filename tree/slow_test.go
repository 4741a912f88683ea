package tree_test

import (
	"fmt"
	"maps"
	"math/rand/v2"
	"slices"
	"strconv"
	"strings"

	"treadle/api"
)

func f(p, s string) api.Entry { return api.Entry{Path: p, Kind: api.KindFile, Data: s} }
func d(p string) api.Entry    { return api.Entry{Path: p, Kind: api.KindDir} }
func l(p, s string) api.Entry { return api.Entry{Path: p, Kind: api.KindLink, Data: s} }

// show is an entry or a list of them, cut off where it is long.
func show(v any) string {
	s := fmt.Sprintf("%+v", v)
	return strconv.Quote(s[:min(len(s), 300)])
}

func row(e ...api.Entry) []api.Entry { return e }

func long(n int) string { return strings.Repeat("n", n) }

func deep(n int) string { return strings.Join(slices.Repeat([]string{"a"}, n), "/") }

// deepDirs are the directories a, a/a and so on, n of them.
func deepDirs(n int) []api.Entry {
	var t []api.Entry
	for i := range n {
		t = append(t, d(deep(i+1)))
	}
	return t
}

// files are n files of that many bytes each, whose names begin with s.
func files(s string, n, bytes int) []api.Entry {
	var t []api.Entry
	for i := range n {
		t = append(t, f(fmt.Sprintf("%s%04d", s, i), long(bytes)))
	}
	return t
}

// whole has all the bytes that a tree may have: 16 files as great as may be.
func whole(s string) []api.Entry { return files(s, 16, 65536) }

func source() *rand.Rand { return rand.New(rand.NewPCG(5, 1)) }

// noPaths are texts of which each is no path for a reason of its own.
func noPaths() []string {
	return []string{
		"/", "/a", "a/", "a//b", ".", "..", "./a", "a/..", "a/./b", "a b", "a\\b", "é", "a/\x00", long(65), "a/" + long(65), deep(33),
	}
}

// noEntries are entries of which each may not be for a reason of its own.
func noEntries() []api.Entry {
	bad := []api.Entry{
		{}, f("", "x"), d(""), l("", "x"),
		{Path: "a"}, {Path: "a", Data: "x"}, {Path: "a", Kind: 4}, {Path: "a", Kind: -1, Data: "x"}, {Path: "a", Kind: 1 << 40},
		f("a", long(65537)), {Path: "a", Kind: api.KindDir, Data: "x"}, l("a", ""), l("a", long(4097)),
	}
	for _, p := range noPaths() {
		bad = append(bad, f(p, "x"), d(p), l(p, "x"))
	}
	return bad
}

// goodEntries may be, each at an edge of its own, where its directory is the root.
func goodEntries() []api.Entry {
	return []api.Entry{
		f("a", ""), f("a", long(65536)), f("a", "\x00\xff"), d("a"), l("a", "x"), l("a", long(4096)), l("a", "../../../\x00//"), l("a", "/"),
		f(long(64), "x"), d("..."), l("-", "x"),
	}
}

type wrong struct {
	t  []api.Entry
	at int
	e  api.Errno
}

// wrongTrees are lists of entries that are no right trees, for each reason and each place.
func wrongTrees() []wrong {
	l := []wrong{
		{files("n", 1025, 0), 1024, api.ErrMany},
		{row(f("a/b", "x")), 0, api.ErrParent},
		{row(d("b"), d("a")), 1, api.ErrOrder},
		{row(d("a"), d("a")), 1, api.ErrOrder},
		{row(api.Entry{Path: "a", Kind: api.KindDir, Data: "x"}), 0, api.ErrKind},
		{append(whole("n"), f("o", "x")), 16, api.ErrBig},
	}
	for _, e := range noEntries() {
		l = append(l, wrong{row(e), 0, api.ErrKind})
	}
	return l
}

const nameBytes = "ABCDEFGHIJKLMNOPQRSTUVWXYZabcdefghijklmnopqrstuvwxyz0123456789._-"

func slowName(s string) bool {
	if len(s) < 1 || len(s) > 64 || s == "." || s == ".." {
		return false
	}
	return strings.Trim(s, nameBytes) == ""
}

// slowNames are a path's names, and whether the text is one.
func slowNames(s string) ([]string, bool) {
	if s == "" {
		return nil, true
	}
	names := strings.Split(s, "/")
	for _, name := range names {
		if !slowName(name) {
			return nil, false
		}
	}
	return names, len(names) <= 32
}

func slowCompare(a, b string) int {
	return slices.Compare(strings.Split(a, "/"), strings.Split(b, "/"))
}

func slowDir(p string) string {
	names, _ := slowNames(p)
	return strings.Join(names[:len(names)-1], "/")
}

func slowBelow(p, dir string) bool { return dir == "" && p != "" || strings.HasPrefix(p, dir+"/") }

// slowMayBe is the chapter's own words.
func slowMayBe(e api.Entry) bool {
	if _, is := slowNames(e.Path); !is || e.Path == "" {
		return false
	}
	n := len(e.Data)
	return e.Kind == 1 && n <= 65536 || e.Kind == 2 && n == 0 || e.Kind == 3 && n >= 1 && n <= 4096
}

// slowCheck is the chapter's own words.
func slowCheck(t []api.Entry) (int, api.Errno) {
	if len(t) > 1024 {
		return 1024, api.ErrMany
	}
	bytes := 0
	for i, e := range t {
		bytes += len(e.Data)
		if !slowMayBe(e) {
			return i, api.ErrKind
		}
		if i > 0 && slowCompare(t[i-1].Path, e.Path) >= 0 {
			return i, api.ErrOrder
		}
		if dir := slowDir(e.Path); dir != "" && !slices.Contains(t[:i], d(dir)) {
			return i, api.ErrParent
		}
		if bytes > 1<<20 {
			return i, api.ErrBig
		}
	}
	return 0, api.OK
}

// table is a tree by its paths.
type table map[string]api.Entry

func tableOf(t []api.Entry) table {
	m := table{}
	for _, e := range t {
		m[e.Path] = e
	}
	return m
}

func (m table) row() []api.Entry {
	return slices.SortedFunc(maps.Values(m), func(a, b api.Entry) int { return slowCompare(a.Path, b.Path) })
}

// answer is the tree, or why it would have too much.
func (m table) answer() ([]api.Entry, api.Errno) {
	bytes := 0
	for _, e := range m {
		bytes += len(e.Data)
	}
	switch {
	case len(m) > 1024:
		return nil, api.ErrMany
	case bytes > 1<<20:
		return nil, api.ErrBig
	}
	return m.row(), api.OK
}

func (m table) isDir(p string) bool { return p == "" || m[p].Kind == api.KindDir }

func (m table) dirError(p string) api.Errno {
	_, is := slowNames(p)
	switch {
	case !is:
		return api.ErrPath
	case m.isDir(p):
		return api.OK
	case m[p].Kind == api.KindNone:
		return api.ErrNone
	}
	return api.ErrFile
}

func slowMake(l []api.Entry) ([]api.Entry, api.Errno) {
	for _, e := range l {
		if !slowMayBe(e) {
			return nil, api.ErrKind
		}
	}
	m := tableOf(l)
	if len(m) != len(l) {
		return nil, api.ErrThere
	}
	all := maps.Clone(m)
	for _, e := range l {
		names, _ := slowNames(e.Path)
		for n := 1; n < len(names); n++ {
			dir := strings.Join(names[:n], "/")
			if _, there := m[dir]; there && !m.isDir(dir) {
				return nil, api.ErrParent
			}
			all[dir] = d(dir)
		}
	}
	return all.answer()
}

func slowPut(t []api.Entry, e api.Entry) ([]api.Entry, api.Errno) {
	if _, why := slowCheck(t); why != api.OK {
		return nil, why
	}
	m := tableOf(t)
	if !slowMayBe(e) {
		return nil, api.ErrKind
	}
	if !m.isDir(slowDir(e.Path)) {
		return nil, api.ErrParent
	}
	if old, there := m[e.Path]; there && (old.Kind == api.KindDir || e.Kind == api.KindDir) && old.Kind != e.Kind {
		return nil, api.ErrThere
	}
	m[e.Path] = e
	return m.answer()
}

func slowRemove(t []api.Entry, p string) ([]api.Entry, api.Errno) {
	if _, why := slowCheck(t); why != api.OK {
		return nil, why
	}
	m := tableOf(t)
	if _, is := slowNames(p); !is {
		return nil, api.ErrPath
	}
	if _, there := m[p]; !there {
		return nil, api.ErrNone
	}
	maps.DeleteFunc(m, func(at string, _ api.Entry) bool { return at == p || slowBelow(at, p) })
	return m.answer()
}

func slowSub(t []api.Entry, dir string) ([]api.Entry, api.Errno) {
	if _, why := slowCheck(t); why != api.OK {
		return nil, why
	}
	m := tableOf(t)
	if why := m.dirError(dir); why != api.OK {
		return nil, why
	}
	s := table{}
	for p, e := range m {
		if slowBelow(p, dir) {
			e.Path = strings.TrimPrefix(strings.TrimPrefix(p, dir), "/")
			s[e.Path] = e
		}
	}
	return s.answer()
}

func slowKids(t []api.Entry, dir string) ([]string, api.Errno) {
	s, why := slowSub(t, dir)
	var names []string
	for _, e := range s {
		if !strings.Contains(e.Path, "/") {
			names = append(names, e.Path)
		}
	}
	slices.Sort(names)
	return names, why
}

func slowGraft(t []api.Entry, dir string, s []api.Entry) ([]api.Entry, api.Errno) {
	for _, l := range [][]api.Entry{t, s} {
		if _, why := slowCheck(l); why != api.OK {
			return nil, why
		}
	}
	m := tableOf(t)
	if why := m.dirError(dir); why != api.OK {
		return nil, why
	}
	maps.DeleteFunc(m, func(at string, _ api.Entry) bool { return slowBelow(at, dir) })
	for _, e := range s {
		e.Path = strings.TrimPrefix(dir+"/"+e.Path, "/")
		if _, is := slowNames(e.Path); !is {
			return nil, api.ErrDeep
		}
		m[e.Path] = e
	}
	return m.answer()
}

func slowDiff(a, b []api.Entry) ([]api.Change, api.Errno) {
	for _, l := range [][]api.Entry{a, b} {
		if _, why := slowCheck(l); why != api.OK {
			return nil, why
		}
	}
	before, after := tableOf(a), tableOf(b)
	both := maps.Clone(before)
	maps.Copy(both, after)
	var out []api.Change
	for _, e := range both.row() {
		if before[e.Path] != after[e.Path] {
			out = append(out, api.Change{Path: e.Path, Old: before[e.Path], New: after[e.Path]})
		}
	}
	return out, api.OK
}

func slowApply(t []api.Entry, changes []api.Change) ([]api.Entry, api.Errno) {
	if _, why := slowCheck(t); why != api.OK {
		return nil, why
	}
	zero := api.Entry{}
	for i, c := range changes {
		if c.Old == zero && c.New == zero || i > 0 && slowCompare(changes[i-1].Path, c.Path) >= 0 {
			return nil, api.ErrArg
		}
		for _, e := range row(c.Old, c.New) {
			if e != zero && (e.Path != c.Path || !slowMayBe(e)) {
				return nil, api.ErrArg
			}
		}
	}
	m := tableOf(t)
	for _, c := range changes {
		if m[c.Path] != c.Old {
			return nil, api.ErrNone
		}
		if m[c.Path] = c.New; c.New == zero {
			delete(m, c.Path)
		}
	}
	next := m.row()
	if _, why := slowCheck(next); why != api.OK {
		return nil, why
	}
	return next, api.OK
}

// somePath is a path of few, like names, so that many lie in one another.
func somePath(r *rand.Rand) string {
	choice := []string{"a", "b", "a-b", "ab", "a.", "A"}
	names := make([]string, 1+r.IntN(4))
	for i := range names {
		names[i] = choice[r.IntN(len(choice))]
	}
	return strings.Join(names, "/")
}

// someEntry may be, but of some few.
func someEntry(r *rand.Rand) api.Entry {
	if r.IntN(20) == 0 {
		bad := []api.Entry{{}, d(""), {Path: "a"}, {Path: "b", Kind: 4}, {Path: "a", Kind: api.KindDir, Data: "x"}, l("b", ""), f("a b", "x"), d("b/")}
		return bad[r.IntN(len(bad))]
	}
	p := somePath(r)
	data := []string{"x", "y", "xy"}[r.IntN(3)]
	switch r.IntN(5) {
	case 0:
		return f(p, data)
	case 1:
		return l(p, data)
	case 2:
		return f(p, "")
	}
	return d(p)
}

// someTree is a right tree of some few entries.
func someTree(r *rand.Rand) []api.Entry {
	var t []api.Entry
	for range r.IntN(12) {
		if next, e := slowMake(append(slices.Clone(t), someEntry(r))); e == api.OK {
			t = next
		}
	}
	return t
}

// someRow is a right tree to which mostly nothing, but at times something happened.
func someRow(r *rand.Rand) []api.Entry {
	t := someTree(r)
	if len(t) == 0 {
		return t
	}
	i, j := r.IntN(len(t)), r.IntN(len(t))
	switch r.IntN(12) {
	case 0:
		t[i], t[j] = t[j], t[i]
	case 1:
		t[i] = someEntry(r)
	case 2:
		t = slices.Delete(t, i, i+1)
	case 3:
		t = slices.Insert(t, i, t[j])
	}
	return t
}

// someDir is mostly a path, and mostly one of the tree.
func someDir(r *rand.Rand, t []api.Entry) string {
	switch n := r.IntN(12); {
	case n == 0:
		return noPaths()[r.IntN(len(noPaths()))]
	case n == 1:
		return ""
	case n < 4 || len(t) == 0:
		return somePath(r)
	}
	return t[r.IntN(len(t))].Path
}
