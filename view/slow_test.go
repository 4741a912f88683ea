package view_test

import (
	"crypto/sha256"
	"encoding/binary"
	"fmt"
	"maps"
	"math/rand/v2"
	"slices"
	"strconv"
	"strings"
	"testing"

	"treadle/api"
	"treadle/path"
	"treadle/tree"
	"treadle/view"
)

func f(p, s string) api.Entry { return api.Entry{Path: p, Kind: api.KindFile, Data: s} }
func d(p string) api.Entry    { return api.Entry{Path: p, Kind: api.KindDir} }
func l(p, s string) api.Entry { return api.Entry{Path: p, Kind: api.KindLink, Data: s} }

func row(e ...api.Entry) []api.Entry { return e }

func long(n int) string { return strings.Repeat("n", n) }

func deep(n int) string { return strings.Join(slices.Repeat([]string{"a"}, n), "/") }

// deepDirs are the directories a, a/a and so on, n of them.
func deepDirs(n int) []api.Entry {
	var t []api.Entry
	for i := range n {
		t = append(t, d(deep(i+1)))
	}
	return t
}

func digest(s string) api.Digest { return sha256.Sum256([]byte(s)) }

// namesDigest is layer 2's Tagged("names", ..), written out.
func namesDigest(names ...string) api.Digest {
	b := []byte("\x05names")
	for _, name := range names {
		b = binary.BigEndian.AppendUint64(b, uint64(len(name)))
		b = append(b, name...)
	}
	return sha256.Sum256(b)
}

// What was learnt, as the chapter has it.
func nothing(p string) api.Seen { return api.Seen{Path: p} }
func fileKind(p string) api.Seen {
	return api.Seen{Path: p, What: api.SeenKind, Kind: api.KindFile}
}
func fileRead(p, s string) api.Seen {
	return api.Seen{Path: p, What: api.SeenFile, Kind: api.KindFile, Digest: digest(s)}
}
func dirMet(p string) api.Seen { return api.Seen{Path: p, What: api.SeenDir, Kind: api.KindDir} }
func dirListed(p string, names ...string) api.Seen {
	return api.Seen{Path: p, What: api.SeenDir, Kind: api.KindDir, Digest: namesDigest(names...)}
}
func linkMet(p, to string) api.Seen {
	return api.Seen{Path: p, What: api.SeenLink, Kind: api.KindLink, Digest: digest(to)}
}

// viewer are a view's calls: View has them, and so has the slow one.
type viewer interface {
	Resolve(p string) (string, api.Errno)
	Kind(p string) (int, api.Errno)
	Read(p string) (string, api.Errno)
	List(p string) ([]string, api.Errno)
	Write(p, data string) api.Errno
	Make(p string) api.Errno
	Remove(p string) api.Errno
	Outputs() []api.Entry
	Removed() []string
	Merged() ([]api.Entry, api.Errno)
	Seen() []api.Seen
}

// lesson is something that was learnt, and whether by a look.
type lesson struct {
	api.Seen
	look bool
}

// slow is a view that says the chapter's words once more: it keeps every lesson, and asks all paths one by one.
type slow struct {
	tree, over map[string]api.Entry
	lessons    []lesson
}

func newSlow(t []api.Entry) *slow {
	s := &slow{tree: map[string]api.Entry{}, over: map[string]api.Entry{}}
	for _, e := range t {
		s.tree[e.Path] = e
	}
	return s
}

func (s *slow) stands(p string) api.Entry {
	if e, ok := s.over[p]; ok {
		return e
	}
	return s.tree[p]
}

func (s *slow) learn(look bool, one api.Seen) { s.lessons = append(s.lessons, lesson{one, look}) }

func (s *slow) look(p string) api.Entry {
	if _, ok := s.over[p]; ok {
		return s.over[p]
	}
	switch e := s.tree[p]; e.Kind {
	case api.KindNone:
		s.learn(true, nothing(p))
	case api.KindFile:
		s.learn(true, fileKind(p))
	case api.KindDir:
		s.learn(true, dirMet(p))
	case api.KindLink:
		s.learn(true, linkMet(p, e.Data))
	}
	return s.tree[p]
}

func slowJoin(dir, name string) string { return strings.TrimPrefix(dir+"/"+name, "/") }

// slowSplit is a path's directory and last name.
func slowSplit(p string) (string, string) {
	i := strings.LastIndex(p, "/")
	return p[:max(i, 0)], p[i+1:]
}

func slowNames(p string) []string {
	if p == "" {
		return nil
	}
	return strings.Split(p, "/")
}

// kin are the names of what has its path right in a directory, rising.
func kin(dir string, paths []string) []string {
	var names []string
	for _, p := range paths {
		if up, name := slowSplit(p); up == dir {
			names = append(names, name)
		}
	}
	slices.Sort(names)
	return names
}

// resolve goes on from a place, with names ahead and so many links followed.
func (s *slow) resolve(at string, kind int, ahead []string, hops int) (string, int, api.Errno) {
	if len(ahead) == 0 {
		return at, kind, api.OK
	}
	if kind == api.KindFile {
		return "", 0, api.ErrFile
	}
	next := slowJoin(at, ahead[0])
	e := s.look(next)
	switch e.Kind {
	case api.KindNone:
		return "", 0, api.ErrMissing
	case api.KindLink:
		if hops == 8 {
			return "", 0, api.ErrHops
		}
		to, why := path.Join(at, e.Data)
		if why != api.OK {
			return "", 0, why
		}
		names := slices.Concat(slowNames(to), ahead[1:])
		if len(names) > 32 {
			return "", 0, api.ErrDeep
		}
		return s.resolve("", api.KindDir, names, hops+1)
	}
	return s.resolve(next, e.Kind, ahead[1:], hops)
}

func (s *slow) find(p string) (string, int, api.Errno) {
	if path.Check(p) != api.OK {
		return "", 0, api.ErrPath
	}
	return s.resolve("", api.KindDir, slowNames(p), 0)
}

func (s *slow) Resolve(p string) (string, api.Errno) {
	q, _, e := s.find(p)
	return q, e
}

func (s *slow) Kind(p string) (int, api.Errno) {
	_, kind, e := s.find(p)
	if e == api.ErrMissing {
		return api.KindNone, api.OK
	}
	return kind, e
}

func (s *slow) Read(p string) (string, api.Errno) {
	q, kind, e := s.find(p)
	if e != api.OK {
		return "", e
	}
	if kind == api.KindDir {
		return "", api.ErrDir
	}
	if _, ok := s.over[q]; !ok {
		s.learn(false, fileRead(q, s.tree[q].Data))
	}
	return s.stands(q).Data, api.OK
}

func (s *slow) list(dir string) []string {
	if _, ok := s.over[dir]; !ok {
		s.learn(false, dirListed(dir, kin(dir, slices.Collect(maps.Keys(s.tree)))...))
	}
	var paths []string
	for p := range s.all() {
		paths = append(paths, p)
	}
	return kin(dir, paths)
}

func (s *slow) List(p string) ([]string, api.Errno) {
	q, kind, e := s.find(p)
	if e != api.OK {
		return nil, e
	}
	if kind == api.KindFile {
		return nil, api.ErrFile
	}
	return s.list(q), api.OK
}

// put lets an entry stand there, if the overlay is not too great then.
func (s *slow) put(p string, e api.Entry) api.Errno {
	next := maps.Clone(s.over)
	next[p] = e
	bytes := 0
	for _, e := range next {
		bytes += len(e.Data)
	}
	if len(next) > 1024 {
		return api.ErrMany
	}
	if bytes > 1<<20 {
		return api.ErrBig
	}
	s.over = next
	return api.OK
}

// place is what Write does of ErrMissing, and Make.
func (s *slow) place(p string, kind int, data string) api.Errno {
	at, e := s.spot(p)
	if e != api.OK {
		return e
	}
	if s.look(at).Kind != api.KindNone {
		return api.ErrMissing
	}
	return s.put(at, api.Entry{Path: at, Kind: kind, Data: data})
}

// spot is the path of p's last name in where its directory leads.
func (s *slow) spot(p string) (string, api.Errno) {
	up, name := slowSplit(p)
	dir, kind, e := s.find(up)
	if e != api.OK {
		return "", e
	}
	if kind == api.KindFile {
		return "", api.ErrFile
	}
	if len(slowNames(dir)) == 32 {
		return "", api.ErrDeep
	}
	return slowJoin(dir, name), api.OK
}

func (s *slow) Write(p, data string) api.Errno {
	if path.Check(p) != api.OK {
		return api.ErrPath
	}
	if p == "" {
		return api.ErrRoot
	}
	if len(data) > 65536 {
		return api.ErrBig
	}
	q, kind, e := s.find(p)
	if e == api.ErrMissing {
		return s.place(p, api.KindFile, data)
	}
	if e != api.OK {
		return e
	}
	if kind == api.KindDir {
		return api.ErrDir
	}
	return s.put(q, f(q, data))
}

func (s *slow) Make(p string) api.Errno {
	if path.Check(p) != api.OK {
		return api.ErrPath
	}
	if p == "" {
		return api.ErrRoot
	}
	if _, _, e := s.find(p); e == api.OK {
		return api.ErrThere
	}
	return s.place(p, api.KindDir, "")
}

func (s *slow) Remove(p string) api.Errno {
	if path.Check(p) != api.OK {
		return api.ErrPath
	}
	if p == "" {
		return api.ErrRoot
	}
	at, e := s.spot(p)
	if e != api.OK {
		return e
	}
	there := s.look(at)
	if there.Kind == api.KindNone {
		return api.ErrMissing
	}
	if there.Kind == api.KindDir && len(s.list(at)) > 0 {
		return api.ErrThere
	}
	if s.tree[at].Kind == api.KindNone {
		delete(s.over, at)
		return api.OK
	}
	return s.put(at, api.Entry{})
}

// all is what stands, by path.
func (s *slow) all() map[string]api.Entry {
	out := maps.Clone(s.tree)
	for p, e := range s.over {
		out[p] = e
	}
	maps.DeleteFunc(out, func(p string, e api.Entry) bool { return e.Kind == api.KindNone })
	return out
}

// slowRising are the keys of a map in the order of paths: name by name.
func slowRising[T any](m map[string]T) []string {
	return slices.SortedFunc(maps.Keys(m), func(a, b string) int { return slices.Compare(slowNames(a), slowNames(b)) })
}

func (s *slow) Outputs() []api.Entry {
	var out []api.Entry
	for _, p := range slowRising(s.over) {
		if s.over[p].Kind != api.KindNone {
			out = append(out, s.over[p])
		}
	}
	return out
}

func (s *slow) Removed() []string {
	var out []string
	for _, p := range slowRising(s.over) {
		if s.over[p].Kind == api.KindNone && s.tree[p].Kind != api.KindNone {
			out = append(out, p)
		}
	}
	return out
}

func (s *slow) Merged() ([]api.Entry, api.Errno) {
	all := s.all()
	var out []api.Entry
	bytes := 0
	for _, p := range slowRising(all) {
		out = append(out, all[p])
		bytes += len(all[p].Data)
	}
	if len(out) > 1024 {
		return nil, api.ErrMany
	}
	if bytes > 1<<20 {
		return nil, api.ErrBig
	}
	return out, api.OK
}

func (s *slow) Seen() []api.Seen {
	last := map[string]lesson{}
	for _, x := range s.lessons {
		if old, ok := last[x.Path]; !ok || !x.look || old.look {
			last[x.Path] = x
		}
	}
	var out []api.Seen
	for _, p := range slowRising(last) {
		out = append(out, last[p].Seen)
	}
	return out
}

// slowHolds is the chapter's own words.
func slowHolds(t []api.Entry, l ...api.Seen) bool {
	if _, e := tree.Check(t); e != api.OK {
		return false
	}
	s := newSlow(append(slices.Clone(t), d("")))
	for _, x := range l {
		e := s.tree[x.Path]
		so := false
		switch x.What {
		case 0:
			so = e.Kind == 0
		case 4:
			so = x.Kind != 0 && e.Kind == x.Kind
		case 1:
			so = e.Kind == 1 && x.Digest == digest(e.Data)
		case 3:
			so = e.Kind == 3 && x.Digest == digest(e.Data)
		case 2:
			so = e.Kind == 2
			if x.Digest != (api.Digest{}) {
				delete(s.tree, "")
				so = so && x.Digest == namesDigest(kin(x.Path, slices.Collect(maps.Keys(s.tree)))...)
				s.tree[""] = d("")
			}
		}
		if !so {
			return false
		}
	}
	return true
}

// call is one call of a view.
type call struct{ name, p, data string }

func (c call) String() string {
	if len(c.data) > 30 {
		return fmt.Sprintf("%s(%q, %d bytes)", c.name, c.p, len(c.data))
	}
	return fmt.Sprintf("%s(%q, %q)", c.name, c.p, c.data)
}

// do makes a call, and tells what it answered.
func (c call) do(v viewer) string {
	switch c.name {
	case "Resolve":
		q, e := v.Resolve(c.p)
		return fmt.Sprintf("%q %d", q, e)
	case "Kind":
		k, e := v.Kind(c.p)
		return fmt.Sprintf("%d %d", k, e)
	case "Read":
		s, e := v.Read(c.p)
		return fmt.Sprintf("%q %d", s, e)
	case "List":
		names, e := v.List(c.p)
		return fmt.Sprintf("%q %d", names, e)
	case "Write":
		return fmt.Sprint(int(v.Write(c.p, c.data)))
	case "Make":
		return fmt.Sprint(int(v.Make(c.p)))
	case "Remove":
		return fmt.Sprint(int(v.Remove(c.p)))
	}
	panic(c.name)
}

var callNames = []string{"Resolve", "Kind", "Read", "List", "Write", "Make", "Remove"}

// cut is a text of which not too much is shown.
func cut(s string) string {
	if len(s) > 1500 {
		return s[:1500] + ".."
	}
	return s
}

func show(v any) string {
	s := fmt.Sprintf("%+v", v)
	return strconv.Quote(cut(s))
}

// holdCall makes a call of both, and holds their answers against each other.
func holdCall(t *testing.T, v, s viewer, c call) {
	t.Helper()
	if got, want := c.do(v), c.do(s); got != want {
		t.Errorf("%v: %s, not %s", c, cut(got), cut(want))
	}
}

// holdStand holds all that a view tells of itself against the slow one.
func holdStand(t *testing.T, v, s viewer) {
	t.Helper()
	holdList(t, "Seen", v.Seen(), s.Seen())
	holdList(t, "Outputs", v.Outputs(), s.Outputs())
	holdList(t, "Removed", v.Removed(), s.Removed())
	got, e := v.Merged()
	want, why := s.Merged()
	holdList(t, "Merged", got, want)
	hold(t, "Merged", e, why)
}

func hold[T comparable](t *testing.T, what string, got, want T) {
	t.Helper()
	if got != want {
		t.Errorf("%s: %s, not %s", what, show(got), show(want))
	}
}

func holdList[T comparable](t *testing.T, what string, got, want []T) {
	t.Helper()
	if !slices.Equal(got, want) {
		t.Errorf("%s: %s, not %s", what, show(got), show(want))
	}
}

func newView(t *testing.T, l ...api.Entry) *view.View {
	t.Helper()
	v, e := view.New(l)
	if v == nil || e != api.OK {
		t.Fatalf("New: %v, %d", v, e)
	}
	return v
}

func pick[T any](g *rand.Rand, l ...T) T { return l[g.IntN(len(l))] }

func someName(g *rand.Rand) string { return pick(g, "a", "b", "c", "a-b", "d") }

// someTarget is a written path that leads anywhere, and mostly not far.
func someTarget(g *rand.Rand) string {
	pieces := make([]string, 1+g.IntN(3))
	for i := range pieces {
		pieces[i] = pick(g, "..", "..", ".", someName(g), someName(g), someName(g), someName(g))
	}
	s := strings.Join(pieces, "/")
	return pick(g, s, s, s, s, s, s, s, s, "/"+s, s+"//", "a b/"+s, deep(33))
}

// someTree is a right tree of some entries.
func someTree(g *rand.Rand) []api.Entry {
	dirs := []string{""}
	have := map[string]api.Entry{}
	for range g.IntN(14) {
		p := slowJoin(pick(g, dirs...), someName(g))
		if _, ok := have[p]; ok {
			continue
		}
		switch g.IntN(3) {
		case 0:
			have[p] = f(p, pick(g, "", "x", "y", "some text"))
		case 1:
			have[p] = d(p)
			dirs = append(dirs, p)
		case 2:
			have[p] = l(p, someTarget(g))
		}
	}
	t, _ := tree.Make(slices.Collect(maps.Values(have))...)
	return t
}

// somePath is one of the paths, or one near them, or no path.
func somePath(g *rand.Rand, t []api.Entry) string {
	names := make([]string, g.IntN(4))
	for i := range names {
		names[i] = someName(g)
	}
	p := strings.Join(names, "/")
	if len(t) > 0 && g.IntN(3) > 0 {
		p = pick(g, t...).Path
		for range pick(g, 0, 0, 1, 1, 2) {
			p = slowJoin(p, someName(g))
		}
	}
	if g.IntN(40) == 0 {
		return pick(g, "", "", "/"+p, p+"/", p+"/..", ".")
	}
	return p
}

func someCall(g *rand.Rand, t []api.Entry) call {
	c := call{name: pick(g, callNames...), p: somePath(g, t)}
	if c.name == "Write" {
		c.data = pick(g, "", "new", "newer", "x")
	}
	return c
}
