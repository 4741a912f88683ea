package merkle_test

import (
	"bytes"
	"crypto/sha256"
	"encoding/binary"
	"fmt"
	"maps"
	"math/rand/v2"
	"slices"
	"strconv"
	"strings"

	"treadle/api"
	"treadle/tree"
)

func f(p, s string) api.Entry { return api.Entry{Path: p, Kind: api.KindFile, Data: s} }
func d(p string) api.Entry    { return api.Entry{Path: p, Kind: api.KindDir} }
func l(p, s string) api.Entry { return api.Entry{Path: p, Kind: api.KindLink, Data: s} }

func row(e ...api.Entry) []api.Entry { return e }

// show is what a test tells of, cut off where it is long.
func show(v any) string {
	s := fmt.Sprintf("%+v", v)
	return strconv.Quote(s[:min(len(s), 300)])
}

func long(n int) string { return strings.Repeat("n", n) }

func deep(n int) string { return strings.Join(slices.Repeat([]string{"a"}, n), "/") }

// deepDirs are the directories a, a/a and so on, n of them.
func deepDirs(n int) []api.Entry {
	var t []api.Entry
	for i := range n {
		t = append(t, d(deep(i+1)))
	}
	return t
}

// longest is a file at a path that has as many bytes as one may, with its directories.
func longest() []api.Entry {
	names := slices.Repeat([]string{long(64)}, 32)
	var t []api.Entry
	for n := 1; n < 32; n++ {
		t = append(t, d(strings.Join(names[:n], "/")))
	}
	return append(t, f(strings.Join(names, "/"), "x"))
}

// files are n files of that many bytes each, whose names begin with s.
func files(s string, n, bytes int) []api.Entry {
	var t []api.Entry
	for i := range n {
		t = append(t, f(fmt.Sprintf("%s%04d", s, i), long(bytes)))
	}
	return t
}

// whole has all the bytes that a tree may have: 16 files as great as may be.
func whole(s string) []api.Entry { return files(s, 16, 65536) }

// second is the tree of the chapter's second example.
func second() []api.Entry { return row(d("a"), f("a/b", "x")) }

// wide has all kinds, names that begin as others do, and directories in directories.
func wide() []api.Entry {
	return row(f("A", ""), d("a"), d("a/a"), f("a/a/b", "x"), l("a/a/c", "b"), f("a/b", "x"), d("a/c"), f("a-", "x"), l("a-b", "a/b"), d("ab"), d("ab/a"), d("ab/a/a"), f("ab/a/a/z", "deep"), f("ab/b", "x"), d("b"))
}

func rightTrees() [][]api.Entry {
	return [][]api.Entry{
		nil, {}, second(), wide(), row(f("a", "")), row(d("a")), row(l("a", "x")), row(f("a", long(65536))), row(l("a", long(4096))),
		row(f("a", "\x00\xff/")), row(f(long(64), "x")), longest(), deepDirs(32), append(deepDirs(31), f(deep(32), "x")), append(deepDirs(3), f("b", "")),
		files("n", 127, 1), files("n", 128, 1), files("n", 1024, 1024), whole("n"), append(whole("n"), d("o"), f("o/p", "")),
		row(f("a", long(127))), row(f("a", long(128))), row(f("a", long(16383))), row(f("a", long(16384))),
	}
}

func source() *rand.Rand { return rand.New(rand.NewPCG(6, 1)) }

// noPaths are texts of which each is no path for a reason of its own.
func noPaths() []string {
	return []string{
		"/", "/a", "a/", "a//b", ".", "..", "./a", "a/..", "a/./b", "a b", "a\\b", "é", "a/\x00", long(65), "a/" + long(65), deep(33),
	}
}

// noNames are texts of which each is no name for a reason of its own.
func noNames() []string {
	return []string{"", ".", "..", "/", "a/b", "a/", "/a", "a b", "é", "a\x00", "\xff", "a\n", "a:", "~", long(65)}
}

// noEntries are entries of which each may not be for a reason of its own.
func noEntries() []api.Entry {
	bad := []api.Entry{
		{}, f("", "x"), d(""), l("", "x"),
		{Path: "a"}, {Path: "a", Data: "x"}, {Path: "a", Kind: 4}, {Path: "a", Kind: -1, Data: "x"}, {Path: "a", Kind: 1 << 40}, {Path: "a", Kind: 257, Data: "x"},
		f("a", long(65537)), {Path: "a", Kind: api.KindDir, Data: "x"}, l("a", ""), l("a", long(4097)),
	}
	for _, p := range noPaths() {
		bad = append(bad, f(p, "x"), d(p), l(p, "x"))
	}
	return bad
}

type wrong struct {
	t []api.Entry
	e api.Errno
}

// wrongTrees are lists of entries that are no right trees, for each reason, and some for several.
func wrongTrees() []wrong {
	l := []wrong{
		{files("n", 1025, 0), api.ErrMany},
		{append(row(api.Entry{}), files("n", 1024, 0)...), api.ErrMany},
		{row(f("a/b", "x")), api.ErrParent},
		{row(f("a", "x"), f("a/b", "x")), api.ErrParent},
		{row(d("b"), d("a")), api.ErrOrder},
		{row(d("a"), d("a")), api.ErrOrder},
		{row(d("a"), f("a-", ""), f("a/b", "")), api.ErrOrder},
		{row(f("a/b", "x"), api.Entry{}), api.ErrParent},
		{append(whole("n"), f("o", "x")), api.ErrBig},
		{append(whole("n"), f("a", "x")), api.ErrOrder},
	}
	for _, e := range noEntries() {
		l = append(l, wrong{row(e), api.ErrKind}, wrong{row(d("A"), e), api.ErrKind})
	}
	return l
}

// slowTagged is layer 2's own words, by the library's SHA-256.
func slowTagged(tag string, part []byte) api.Digest {
	b := append([]byte{byte(len(tag))}, tag...)
	b = binary.BigEndian.AppendUint64(b, uint64(len(part)))
	return sha256.Sum256(append(b, part...))
}

func slowText(s string) []byte { return append(binary.AppendUvarint(nil, uint64(len(s))), s...) }

func slowBytes(t []api.Entry) []byte {
	b := binary.AppendUvarint([]byte("tT1"), uint64(len(t)))
	for _, e := range t {
		b = slices.Concat(b, slowText(e.Path), []byte{byte(e.Kind)}, slowText(e.Data))
	}
	return b
}

// slowRead takes any form of a number, and then holds what came against its bytes.
func slowRead(b []byte) ([]api.Entry, bool) {
	left, is := bytes.CutPrefix(b, []byte("tT1"))
	number := func() int {
		n, size := binary.Uvarint(left)
		if size <= 0 || n > uint64(len(b)) {
			is, size, n = false, 0, 0
		}
		left = left[size:]
		return int(n)
	}
	cut := func(n int) string {
		if n > len(left) {
			is, n = false, 0
		}
		s := string(left[:n])
		left = left[n:]
		return s
	}
	var t []api.Entry
	for range number() {
		var e api.Entry
		e.Path = cut(number())
		if kind := cut(1); kind != "" {
			e.Kind = int(kind[0])
		}
		e.Data = cut(number())
		if t = append(t, e); !is {
			return nil, false
		}
	}
	_, why := tree.Check(t)
	if !is || why != api.OK || !bytes.Equal(slowBytes(t), b) {
		return nil, false
	}
	return t, true
}

func slowPack(nodes []api.Node) []byte {
	var b []byte
	for _, n := range nodes {
		b = slices.Concat(b, slowText(n.Name), []byte{byte(n.Kind)}, n.Digest[:])
	}
	return b
}

const nameBytes = "ABCDEFGHIJKLMNOPQRSTUVWXYZabcdefghijklmnopqrstuvwxyz0123456789._-"

func slowName(s string) bool {
	return len(s) >= 1 && len(s) <= 64 && s != "." && s != ".." && strings.Trim(s, nameBytes) == ""
}

// slowNames are a path's names, and whether the text is one.
func slowNames(s string) ([]string, bool) {
	if s == "" {
		return nil, true
	}
	names := strings.Split(s, "/")
	for _, name := range names {
		if !slowName(name) {
			return nil, false
		}
	}
	return names, len(names) <= 32
}

// slowNodesMayBe is the chapter's own words of what Pack takes.
func slowNodesMayBe(nodes []api.Node) bool {
	for i, n := range nodes {
		if !slowName(n.Name) || n.Kind < 1 || n.Kind > 3 || i > 0 && nodes[i-1].Name >= n.Name {
			return false
		}
	}
	return true
}

func slowParent(p string) (dir, name string) {
	i := strings.LastIndex(p, "/")
	return p[:max(i, 0)], p[i+1:]
}

// table is a tree by its paths.
type table map[string]api.Entry

func tableOf(t []api.Entry) table {
	m := table{"": d("")}
	for _, e := range t {
		m[e.Path] = e
	}
	return m
}

func (m table) nodes(dir string) []api.Node {
	var l []api.Node
	for p, e := range m {
		if in, name := slowParent(p); p != "" && in == dir {
			l = append(l, api.Node{Name: name, Kind: e.Kind, Digest: m.digest(p)})
		}
	}
	slices.SortFunc(l, func(a, b api.Node) int { return strings.Compare(a.Name, b.Name) })
	return l
}

func (m table) digest(p string) api.Digest {
	switch e := m[p]; e.Kind {
	case api.KindFile:
		return slowTagged("file", []byte(e.Data))
	case api.KindLink:
		return slowTagged("link", []byte(e.Data))
	}
	return slowTagged("dir", slowPack(m.nodes(p)))
}

// node is the node that a path is; the zero one, if nothing stands there.
func (m table) node(p string) api.Node {
	e, there := m[p]
	if !there {
		return api.Node{}
	}
	_, name := slowParent(p)
	return api.Node{Name: name, Kind: e.Kind, Digest: m.digest(p)}
}

// dirs are the paths of all directories, the root's among them.
func (m table) dirs() []string {
	var l []string
	for p, e := range m {
		if e.Kind == api.KindDir {
			l = append(l, p)
		}
	}
	slices.Sort(l)
	return l
}

func slowDigest(t []api.Entry) api.Digest { return tableOf(t).digest("") }

func slowNodes(t []api.Entry, dir string) ([]api.Node, api.Errno) {
	if _, why := tree.Check(t); why != api.OK {
		return nil, why
	}
	m := tableOf(t)
	_, is := slowNames(dir)
	switch e, there := m[dir]; {
	case !is:
		return nil, api.ErrPath
	case !there:
		return nil, api.ErrNone
	case e.Kind != api.KindDir:
		return nil, api.ErrFile
	}
	return m.nodes(dir), api.OK
}

func slowOf(t []api.Entry, p string) (api.Digest, api.Errno) {
	if _, why := tree.Check(t); why != api.OK {
		return api.Digest{}, why
	}
	m := tableOf(t)
	if _, is := slowNames(p); !is {
		return api.Digest{}, api.ErrPath
	}
	if _, there := m[p]; !there {
		return api.Digest{}, api.ErrNone
	}
	return m.digest(p), api.OK
}

func slowProve(t []api.Entry, p string) ([][]api.Node, api.Errno) {
	if _, why := tree.Check(t); why != api.OK {
		return nil, why
	}
	names, is := slowNames(p)
	if !is {
		return nil, api.ErrPath
	}
	if p == "" {
		return nil, api.ErrRoot
	}
	m := tableOf(t)
	var proof [][]api.Node
	for n := range names {
		if dir := strings.Join(names[:n], "/"); m[dir].Kind == api.KindDir {
			proof = append(proof, m.nodes(dir))
		}
	}
	return proof, api.OK
}

// slowVerify is the chapter's own words, each reason by itself.
func slowVerify(root api.Digest, p string, proof [][]api.Node) (api.Node, api.Errno) {
	names, is := slowNames(p)
	if !is {
		return api.Node{}, api.ErrPath
	}
	if p == "" {
		return api.Node{}, api.ErrRoot
	}
	var met []api.Node
	for i, list := range proof {
		if !slowNodesMayBe(list) {
			return api.Node{}, api.ErrProof
		}
		want := root
		if i > 0 {
			if len(met) < i || met[i-1].Kind != api.KindDir {
				return api.Node{}, api.ErrProof
			}
			want = met[i-1].Digest
		}
		if slowTagged("dir", slowPack(list)) != want || i >= len(names) {
			return api.Node{}, api.ErrProof
		}
		for _, n := range list {
			if n.Name == names[i] {
				met = append(met, n)
			}
		}
	}
	n := len(proof)
	if n == 0 || n < len(names) && len(met) == n && met[n-1].Kind == api.KindDir {
		return api.Node{}, api.ErrProof
	}
	if len(met) == len(names) {
		return met[n-1], api.OK
	}
	return api.Node{}, api.OK
}

func slowDiffer(a, b []api.Entry) ([]string, int, api.Errno) {
	for _, t := range [][]api.Entry{a, b} {
		if _, why := tree.Check(t); why != api.OK {
			return nil, 0, why
		}
	}
	before, after := tableOf(a), tableOf(b)
	both := maps.Clone(before)
	maps.Copy(both, after)
	var paths []string
	n := 0
	for p := range both {
		if before[p] != after[p] {
			paths = append(paths, p)
		}
		if before[p].Kind == api.KindDir && after[p].Kind == api.KindDir && before.digest(p) != after.digest(p) {
			n++
		}
	}
	slices.SortFunc(paths, func(a, b string) int {
		return slices.Compare(strings.Split(a, "/"), strings.Split(b, "/"))
	})
	return paths, n, api.OK
}

// somePath is a path of few, like names, so that many lie in one another.
func somePath(r *rand.Rand) string {
	choice := []string{"a", "b", "a-b", "ab", "a.", "A"}
	names := make([]string, 1+r.IntN(4))
	for i := range names {
		names[i] = choice[r.IntN(len(choice))]
	}
	return strings.Join(names, "/")
}

func someEntry(r *rand.Rand) api.Entry {
	p := somePath(r)
	data := []string{"x", "y", "xy"}[r.IntN(3)]
	switch r.IntN(5) {
	case 0:
		return f(p, data)
	case 1:
		return l(p, data)
	case 2:
		return f(p, "")
	}
	return d(p)
}

// someTree is a right tree of some few entries.
func someTree(r *rand.Rand) []api.Entry {
	var t []api.Entry
	for range r.IntN(12) {
		if next, e := tree.Make(append(slices.Clone(t), someEntry(r))...); e == api.OK {
			t = next
		}
	}
	return t
}

// someRow is a right tree to which mostly nothing, but at times something happened.
func someRow(r *rand.Rand) []api.Entry {
	t := someTree(r)
	if len(t) == 0 {
		return t
	}
	i, j := r.IntN(len(t)), r.IntN(len(t))
	switch r.IntN(12) {
	case 0:
		t[i], t[j] = t[j], t[i]
	case 1:
		t[i] = noEntries()[r.IntN(len(noEntries()))]
	case 2:
		t = slices.Delete(t, i, i+1)
	case 3:
		t = slices.Insert(t, i, t[j])
	}
	return t
}

// someNeighbour is a tree that mostly parts from another one at few paths.
func someNeighbour(r *rand.Rand, t []api.Entry) []api.Entry {
	if r.IntN(4) == 0 {
		return someRow(r)
	}
	for range r.IntN(4) {
		if next, e := tree.Put(t, someEntry(r)); e == api.OK {
			t = next
		}
		if next, e := tree.Remove(t, somePath(r)); e == api.OK {
			t = next
		}
	}
	return t
}

// someAsked is mostly a path, and mostly one of the tree, or a little below one.
func someAsked(r *rand.Rand, t []api.Entry) string {
	switch n := r.IntN(14); {
	case n == 0:
		return noPaths()[r.IntN(len(noPaths()))]
	case n == 1:
		return ""
	case n < 5 || len(t) == 0:
		return somePath(r)
	case n < 8:
		return strings.TrimPrefix(t[r.IntN(len(t))].Path+"/"+somePath(r), "/")
	}
	return t[r.IntN(len(t))].Path
}
