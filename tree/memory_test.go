package tree_test

import (
	"slices"
	"strings"
	"testing"
	"unsafe"

	"treadle/api"
	"treadle/tree"
)

// roomy is a copy of a list with spare room behind its end, which is filled, too.
func roomy[T any](l []T, spare T) []T {
	b := make([]T, len(l), len(l)+5)
	copy(b, l)
	for i := range b[len(l):cap(b)] {
		b[len(l):cap(b)][i] = spare
	}
	return b
}

// span is where a piece of memory lies.
type span struct {
	from, to uintptr
	// What nobody holds any more could make place for another answer.
	held unsafe.Pointer
}

func spanOf(s string) span {
	at := unsafe.Pointer(unsafe.StringData(s))
	return span{uintptr(at), uintptr(at) + uintptr(len(s)), at}
}

func (a span) meets(b span) bool { return a.from < b.to && b.from < a.to }

// texts are where the texts of entries lie.
func texts(l []api.Entry) []span {
	var out []span
	for _, e := range l {
		out = append(out, spanOf(e.Path), spanOf(e.Data))
	}
	return out
}

func changeTexts(l []api.Change) []span {
	var out []span
	for _, c := range l {
		out = append(append(out, spanOf(c.Path)), texts(row(c.Old, c.New))...)
	}
	return out
}

func holdApart(t *testing.T, what string, a, b []span) {
	t.Helper()
	for _, x := range a {
		if slices.ContainsFunc(b, x.meets) {
			t.Errorf("%s: a text of the answer is one of the argument's", what)
			return
		}
	}
}

// given is a tree whose texts lie in memory of their own, of which each call is handed what it needs.
type given struct {
	t, s []api.Entry
	e    api.Entry
	l    []api.Change
	dir  string
}

func newGiven() given {
	var g given
	for _, e := range wide() {
		g.t = append(g.t, api.Entry{Path: strings.Clone(e.Path), Kind: e.Kind, Data: strings.Clone(e.Data)})
	}
	spare := f("spare", "spare")
	g.t = roomy(g.t, spare)
	g.s = roomy(row(d(strings.Clone("s")), f(strings.Clone("s/t"), strings.Clone("text")), l(strings.Clone("u"), strings.Clone("s/t"))), spare)
	g.e = f(strings.Clone("b/z"), strings.Clone("more"))
	g.l = roomy(changes(change(g.t[3], f(strings.Clone("a/b"), strings.Clone("new"))), come(g.e)), come(spare))
	g.dir = strings.Clone("a")
	return g
}

func (g given) texts() []span {
	out := slices.Concat(texts(g.t), texts(g.s), texts(row(g.e)), changeTexts(g.l))
	return append(out, spanOf(g.dir))
}

// trees are all calls that answer a tree.
func trees() map[string]func(g given) ([]api.Entry, api.Errno) {
	return map[string]func(g given) ([]api.Entry, api.Errno){
		"Make":      func(g given) ([]api.Entry, api.Errno) { return tree.Make(g.t...) },
		"Make more": func(g given) ([]api.Entry, api.Errno) { return tree.Make(g.s[1:]...) },
		"Put":       func(g given) ([]api.Entry, api.Errno) { return tree.Put(g.t, g.e) },
		"Put again": func(g given) ([]api.Entry, api.Errno) { return tree.Put(g.t, f(g.t[3].Path, g.e.Data)) },
		"Put last":  func(g given) ([]api.Entry, api.Errno) { return tree.Put(g.t, f("zz", g.e.Data)) },
		"Remove":    func(g given) ([]api.Entry, api.Errno) { return tree.Remove(g.t, g.dir) },
		"Remove b":  func(g given) ([]api.Entry, api.Errno) { return tree.Remove(g.t, "b") },
		"Sub":       func(g given) ([]api.Entry, api.Errno) { return tree.Sub(g.t, g.dir) },
		"Sub of it": func(g given) ([]api.Entry, api.Errno) { return tree.Sub(g.t, "") },
		"Graft":     func(g given) ([]api.Entry, api.Errno) { return tree.Graft(g.t, g.dir, g.s) },
		"Graft up":  func(g given) ([]api.Entry, api.Errno) { return tree.Graft(g.t, "", g.s) },
		"Graft end": func(g given) ([]api.Entry, api.Errno) { return tree.Graft(g.t, "b/b", g.s) },
		"Graft cut": func(g given) ([]api.Entry, api.Errno) { return tree.Graft(g.t, g.dir, nil) },
		"Apply":     func(g given) ([]api.Entry, api.Errno) { return tree.Apply(g.t, g.l) },
		"Apply not": func(g given) ([]api.Entry, api.Errno) { return tree.Apply(g.t, nil) },
		"Walk": func(g given) ([]api.Entry, api.Errno) {
			_, l := told(g.t, g.dir)
			return l, api.OK
		},
		"Find": func(g given) ([]api.Entry, api.Errno) {
			e, _ := tree.Find(g.t, g.t[2].Path)
			return row(e), api.OK
		},
	}
}

func (g given) same(h given) bool {
	whole := func(l []api.Entry) []api.Entry { return l[:cap(l)] }
	return slices.Equal(whole(g.t), whole(h.t)) && slices.Equal(whole(g.s), whole(h.s)) && slices.Equal(g.l[:cap(g.l)], h.l[:cap(h.l)])
}

// R4: nothing that is handed in is changed, its spare room neither, and an answer is new memory, its spare room and its texts, too.
func TestTreesAreNewMemory(t *testing.T) {
	for name, call := range trees() {
		g := newGiven()
		got, e := call(g)
		if e != api.OK || len(got) == 0 {
			t.Errorf("%s: %s, %d", name, show(got), e)
		}
		if !g.same(newGiven()) {
			t.Errorf("%s changed what it was handed", name)
		}
		holdApart(t, name, texts(got), g.texts())
		want := slices.Clone(got)
		again, _ := call(g)
		holdApart(t, name, texts(got), texts(again))
		for i := range got[:cap(got)] {
			got[:cap(got)][i] = f("other", "other")
		}
		if !g.same(newGiven()) {
			t.Errorf("%s answered memory of its argument", name)
		}
		if !slices.Equal(again, want) {
			t.Errorf("%s answered memory of another answer", name)
		}
		clear(g.t[:cap(g.t)])
		clear(g.s[:cap(g.s)])
		if !slices.Equal(again, want) {
			t.Errorf("%s answered memory that the argument changes", name)
		}
	}
}

// R4: the same of changes.
func TestChangesAreNewMemory(t *testing.T) {
	g := newGiven()
	b, _ := tree.Apply(g.t, g.l)
	b = roomy(b, f("spare", "spare"))
	for _, pair := range [][2][]api.Entry{{g.t, b}, {b, g.t}, {g.t, nil}, {nil, b}} {
		kept := [2][]api.Entry{slices.Clone(pair[0][:cap(pair[0])]), slices.Clone(pair[1][:cap(pair[1])])}
		got, e := tree.Diff(pair[0], pair[1])
		if e != api.OK || len(got) == 0 {
			t.Fatalf("Diff: %s, %d", show(got), e)
		}
		holdApart(t, "Diff", changeTexts(got), append(texts(pair[0]), texts(pair[1])...))
		want := slices.Clone(got)
		again, _ := tree.Diff(pair[0], pair[1])
		clear(got[:cap(got)])
		if !slices.Equal(again, want) {
			t.Error("Diff answered memory of another answer")
		}
		if !slices.Equal(pair[0][:cap(pair[0])], kept[0]) || !slices.Equal(pair[1][:cap(pair[1])], kept[1]) {
			t.Error("Diff changed what it was handed")
		}
	}
}

// R4: the same of names.
func TestNamesAreNewMemory(t *testing.T) {
	g := newGiven()
	got, e := tree.Kids(g.t, g.dir)
	again, _ := tree.Kids(g.t, g.dir)
	if e != api.OK || len(got) != 2 || !g.same(newGiven()) {
		t.Errorf("Kids: %q, %d", got, e)
	}
	for _, name := range got {
		holdApart(t, "Kids", []span{spanOf(name)}, g.texts())
	}
	for i := range got[:cap(got)] {
		got[:cap(got)][i] = "other"
	}
	if !slices.Equal(again, []string{"a", "b"}) || !g.same(newGiven()) {
		t.Errorf("Kids answered memory of another one: %q", again)
	}
}

// R4: what is refused is not changed, either.
func TestRefusedIsNotChanged(t *testing.T) {
	g := newGiven()
	tree.Check(g.t)
	tree.Size(g.t)
	tree.Make(append(slices.Clone(g.t), g.t[0])...)
	tree.Make(append(slices.Clone(g.t), f("a-b/c", ""))...)
	tree.Put(g.t, d("a/b"))
	tree.Put(g.t, f("x/y", ""))
	tree.Remove(g.t, "zz")
	tree.Sub(g.t, "a/b")
	tree.Graft(g.t, "zz", g.s)
	tree.Graft(g.t, "a", append(deepDirs(32), g.s...))
	tree.Apply(g.t, append(slices.Clone(g.l), gone(d("c"))))
	tree.Apply(g.t, changes(gone(d("a"))))
	if !g.same(newGiven()) {
		t.Error("what was handed in was changed")
	}
}

// R5: calls know nothing of one another.
func TestCallsApart(t *testing.T) {
	for name, call := range trees() {
		want, _ := call(newGiven())
		for other, between := range trees() {
			between(newGiven())
			if got, _ := call(newGiven()); !slices.Equal(got, want) {
				t.Errorf("%s behind %s: %s", name, other, show(got))
			}
		}
	}
}
