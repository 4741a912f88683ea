package view_test

import (
	"slices"
	"testing"
	"unsafe"

	"treadle/api"
	"treadle/view"
)

// loose is a text whose bytes can be turned afterwards.
type loose struct {
	bytes []byte
	text  string
}

func newLoose(s string) loose {
	b := []byte(s)
	return loose{b, unsafe.String(unsafe.SliceData(b), len(b))}
}

func (x loose) turn() {
	for i := range x.bytes {
		x.bytes[i] = '#'
	}
}

// given is a tree in a list with spare room, all of whose texts can be turned afterwards.
type given struct {
	list  []api.Entry
	texts []loose
}

func newGiven(t []api.Entry) given {
	g := given{list: make([]api.Entry, len(t), len(t)+4)}
	for i, e := range t {
		p, s := newLoose(e.Path), newLoose(e.Data)
		g.texts = append(g.texts, p, s)
		g.list[i] = api.Entry{Path: p.text, Kind: e.Kind, Data: s.text}
	}
	for i := range g.spare() {
		g.spare()[i] = f("spare", "spare")
	}
	return g
}

func (g given) spare() []api.Entry { return g.list[len(g.list):cap(g.list)] }

func (g given) is(t []api.Entry) bool {
	return slices.Equal(g.list, t) && !slices.ContainsFunc(g.spare(), func(e api.Entry) bool { return e != f("spare", "spare") })
}

func (g given) turn() {
	for _, x := range g.texts {
		x.turn()
	}
	clear(g.list[:cap(g.list)])
}

// grown has names and data of more than one byte: of those of one byte the language has a table of its own.
func grown() []api.Entry {
	return row(d("adir"), f("adir/file", "some text"), l("adir/link", "../bdir"), d("bdir"), f("bdir/gone", "more text"), d("empty"))
}

// grownCalls turn and ask each part of grown.
func grownCalls() []call {
	return calls(
		read("adir/file"), read("adir/link/gone"), list(""), list("adir"), kind("none"), kind("adir/none"), write("adir/link/new", "new text"), write("adir/file", "other text"),
		make_("made"), make_("made/within"), write("made/file", "text of it"), remove("bdir/gone"), remove("empty"), list("made"), read("adir/none/no"), write("none/none", "nothing"), remove("adir"),
	)
}

// R4: the tree that is handed in is neither changed nor kept, nor are its texts.
func TestTreeIsNotKept(t *testing.T) {
	g := newGiven(grown())
	v, e := view.New(g.list)
	if e != api.OK || !g.is(grown()) {
		t.Fatalf("New changed what it was handed: %s", show(g.list))
	}
	g.turn()
	s := newSlow(grown())
	holdStand(t, v, s)
	for _, c := range grownCalls() {
		holdCall(t, v, s, c)
		holdStand(t, v, s)
	}
}

// R4: the tree that was handed in stays as it is, whatever the view is asked for.
func TestTreeIsNotTurned(t *testing.T) {
	g := newGiven(grown())
	v, _ := view.New(g.list)
	for _, c := range grownCalls() {
		c.do(v)
		c.do(v.Clone())
		if !g.is(grown()) {
			t.Fatalf("%v turned the tree", c)
		}
	}
}

// R4: paths and data are not kept.
func TestTextsAreNotKept(t *testing.T) {
	v, s := newView(t, grown()...), newSlow(grown())
	for _, c := range grownCalls() {
		p, data := newLoose(c.p), newLoose(c.data)
		holdCall(t, v, s, call{c.name, p.text, data.text})
		if p.text != c.p || data.text != c.data {
			t.Errorf("%v changed what it was handed", c)
		}
		// The slow one keeps what it is handed: it is held once more with texts of its own.
		p.turn()
		data.turn()
		s = newSlow(grown())
		for _, x := range grownCalls() {
			x.do(s)
			if x == c {
				break
			}
		}
		holdStand(t, v, s)
	}
}

// R4: Holds changes nothing, its list neither.
func TestHoldsChangesNothing(t *testing.T) {
	g := newGiven(grown())
	l := make([]api.Seen, 3, 6)
	l[0], l[1], l[2] = dirListed("", "adir", "bdir", "empty"), linkMet("adir/link", "../bdir"), fileRead("bdir/gone", "more text")
	l[:4][3] = dirMet("spare")
	before := slices.Clone(l[:6])
	for range 2 {
		hold(t, "Holds", view.Holds(g.list, l...), true)
		hold(t, "the tree as it was", g.is(grown()), true)
		holdList(t, "the list", l[:6], before)
	}
}

// span is where a piece of memory lies, its spare room with it.
type span struct {
	from, to uintptr
	// What nobody holds any more could make place for another answer.
	held unsafe.Pointer
}

func spanOf(s string) span {
	at := unsafe.Pointer(unsafe.StringData(s))
	return span{uintptr(at), uintptr(at) + uintptr(len(s)), at}
}

func spanOfList[T any](l []T) span {
	at := unsafe.Pointer(unsafe.SliceData(l))
	var one T
	return span{uintptr(at), uintptr(at) + uintptr(cap(l))*unsafe.Sizeof(one), at}
}

func (a span) meets(b span) bool { return a.from < b.to && b.from < a.to }

func entrySpans(l []api.Entry) []span {
	out := []span{spanOfList(l)}
	for _, e := range l {
		out = append(out, spanOf(e.Path), spanOf(e.Data))
	}
	return out
}

func textSpans(l []string) []span {
	out := []span{spanOfList(l)}
	for _, s := range l {
		out = append(out, spanOf(s))
	}
	return out
}

func seenSpans(l []api.Seen) []span {
	out := []span{spanOfList(l)}
	for _, s := range l {
		out = append(out, spanOf(s.Path))
	}
	return out
}

// answerSpans are of all that a view answers in every way.
func answerSpans(v *view.View, paths []string) []span {
	merged, _ := v.Merged()
	out := slices.Concat(entrySpans(v.Outputs()), textSpans(v.Removed()), entrySpans(merged), seenSpans(v.Seen()))
	for _, p := range paths {
		q, _ := v.Resolve(p)
		s, _ := v.Read(p)
		names, _ := v.List(p)
		out = append(append(out, spanOf(q), spanOf(s)), textSpans(names)...)
	}
	return out
}

// R4: no two answers share memory, texts neither, nor with what was handed in, nor those of a clone.
func TestAnswersAreNewMemory(t *testing.T) {
	g := newGiven(grown())
	v, _ := view.New(g.list)
	spans := []span{spanOfList(g.list)}
	for _, x := range g.texts {
		spans = append(spans, spanOf(x.text))
	}
	for _, c := range grownCalls() {
		p, data := newLoose(c.p), newLoose(c.data)
		spans = append(spans, spanOf(p.text), spanOf(data.text))
		call{c.name, p.text, data.text}.do(v)
	}
	var paths []string
	for _, s := range []string{"", "adir", "adir/link", "adir/file", "bdir/new", "adir/link/new", "made", "made/file", "none"} {
		p := newLoose(s)
		paths = append(paths, p.text)
		spans = append(spans, spanOf(p.text))
	}
	w := v.Clone()
	spans = slices.Concat(spans, answerSpans(v, paths), answerSpans(v, paths), answerSpans(w, paths))
	for i, a := range spans {
		if slices.ContainsFunc(spans[i+1:], a.meets) {
			t.Fatalf("memory that is shared: %d of %d", i, len(spans))
		}
	}
}

// R4: answers that are turned, spare room too, turn nothing.
func TestTurnedAnswers(t *testing.T) {
	v, s := newView(t, grown()...), newSlow(grown())
	for _, c := range grownCalls() {
		holdCall(t, v, s, c)
		merged, _ := v.Merged()
		names, _ := v.List("adir")
		s.List("adir")
		outputs, removed, seen := v.Outputs(), v.Removed(), v.Seen()
		clear(merged[:cap(merged)])
		clear(names[:cap(names)])
		clear(outputs[:cap(outputs)])
		clear(removed[:cap(removed)])
		clear(seen[:cap(seen)])
		holdStand(t, v, s)
	}
}

// W3, R5: a view and its clone stand alike, and do not turn one another, nor what either has learnt.
func TestClone(t *testing.T) {
	all := grownCalls()
	for n := range len(all) + 1 {
		v, s := newView(t, grown()...), newSlow(grown())
		for _, c := range all[:n] {
			holdCall(t, v, s, c)
		}
		w := v.Clone()
		holdStand(t, w, s)
		other := newSlow(grown())
		for _, c := range all[:n] {
			c.do(other)
		}
		for _, c := range calls(write("bdir/gone", "1"), read("adir/file"), remove("made/file"), write("own", "2"), list("bdir"), kind("mine"), remove("own")) {
			holdCall(t, w, other, c)
			holdStand(t, w, other)
			holdStand(t, v, s)
		}
		for _, c := range all[n:] {
			holdCall(t, v, s, c)
			holdStand(t, w, other)
			holdStand(t, v, s)
		}
	}
}

// R5: two views over one tree know nothing of one another.
func TestViewsApart(t *testing.T) {
	e := grown()
	v, w := newView(t, e...), newView(t, e...)
	for _, c := range grownCalls() {
		c.do(v)
		holdStand(t, w, newSlow(e))
	}
}
