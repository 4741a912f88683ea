package scan_test

import (
	"slices"
	"strings"
	"testing"
	"unsafe"

	"treadle/api"
	"treadle/scan"
)

// span is where a piece of memory lies.
type span struct {
	from, to uintptr
	// What nobody holds any more could make place for another answer.
	held unsafe.Pointer
}

func spanOf(s string) span {
	at := unsafe.Pointer(unsafe.StringData(s))
	return span{uintptr(at), uintptr(at) + uintptr(len(s)), at}
}

// spanOfList is where a list lies, with its spare room.
func spanOfList[T any](l []T) span {
	var x T
	at := unsafe.Pointer(unsafe.SliceData(l))
	return span{uintptr(at), uintptr(at) + uintptr(cap(l))*unsafe.Sizeof(x), at}
}

func (a span) meets(b span) bool { return a.from < b.to && b.from < a.to }

func includeSpans(l []api.Include) []span {
	all := []span{spanOfList(l)}
	for _, x := range l {
		all = append(all, spanOf(x.Path), spanOf(x.Name))
	}
	return all
}

func textSpans(l []string) []span {
	all := []span{spanOfList(l)}
	for _, s := range l {
		all = append(all, spanOf(s))
	}
	return all
}

// given is what is handed in: a text, a module's path, and a list with spare room behind its end.
type given struct {
	text, module string
	l            []api.Include
}

func newGiven() given {
	l := []api.Include{own("a", "first", 1), own("./b.m", "second", 2), own("../c/d", "third", 3), own("spare", "fourth", 4)}
	return given{strings.Clone(example), strings.Clone("lib/x.m"), l[:3]}
}

func own(path, name string, at int) api.Include {
	return in(strings.Clone(path), strings.Clone(name), at)
}

func (g given) spans() []span {
	return append(includeSpans(g.l[:cap(g.l)]), spanOf(g.text), spanOf(g.module))
}

// answers are the memory of all that can be asked of what is given.
func (g given) answers() []span {
	found, _ := scan.Includes(g.text)
	aimed, _ := scan.Aimed(g.module, g.l)
	with, _ := scan.With(g.text, g.l...)
	bare, _ := scan.With(g.text)
	return slices.Concat(includeSpans(found), textSpans(scan.Names(g.l)), textSpans(aimed), []span{spanOf(with), spanOf(bare)})
}

// R4: an answer shares no memory with what was handed in, with another answer, and within itself.
func TestAnswersAreNewMemory(t *testing.T) {
	g := newGiven()
	handed := g.spans()
	answered := append(g.answers(), g.answers()...)
	for i, a := range answered {
		if a.from == a.to {
			t.Errorf("answer %d is empty", i)
		}
		for j, b := range handed {
			if a.meets(b) {
				t.Errorf("answer %d is what was handed in, %d", i, j)
			}
		}
		for j, b := range answered[:i] {
			if a.meets(b) {
				t.Errorf("answers %d and %d share memory", i, j)
			}
		}
	}
}

// R4: lists that are handed in stay as they are, their spare room too.
func TestListsStay(t *testing.T) {
	g, same := newGiven(), newGiven()
	for range 2 {
		g.answers()
		scan.Aimed("", g.l)
		scan.Aimed("x.m", g.l)
		scan.With("include", g.l...)
		scan.With(strings.Repeat(" ", api.MaxSource), g.l...)
	}
	if !slices.Equal(g.l[:4], same.l[:4]) || g.text != same.text || g.module != same.module {
		t.Error(g)
	}
}

// R4: an answer that is changed, its spare room too, changes no other one.
func TestTurnedAnswers(t *testing.T) {
	g := newGiven()
	for range 2 {
		found, _ := scan.Includes(g.text)
		aimed, _ := scan.Aimed(g.module, g.l)
		names := scan.Names(g.l)
		if !slices.Equal(found, []api.Include{in("a.m", "a", 0), in("./b", "b", 25)}) || !slices.Equal(aimed, []string{"a", "lib/b.m", "c/d"}) || !slices.Equal(names, []string{"first", "second", "third"}) {
			t.Fatal(found, aimed, names)
		}
		for _, l := range [][]string{aimed[:cap(aimed)], names[:cap(names)]} {
			for i := range l {
				l[i] = "turned"
			}
		}
		for i := range found[:cap(found)] {
			found[:cap(found)][i] = in("turned", "turned", -1)
		}
	}
}

// R4: what is handed in is not kept: its memory may become another text.
func TestNothingIsKept(t *testing.T) {
	b := []byte(`include "abc" as def; x`)
	loose := unsafe.String(&b[0], len(b))
	l, _ := scan.Includes(loose)
	s, _ := scan.With(loose)
	m := []api.Include{in(loose[9:12], loose[17:20], 0)}
	aimed, _ := scan.Aimed(loose[:7], m)
	names := scan.Names(m)
	full, _ := scan.With("", m...)
	for i := range b {
		b[i] = '-'
	}
	if !slices.Equal(l, []api.Include{in("abc", "def", 0)}) || s != " x" || !slices.Equal(aimed, []string{"abc"}) || !slices.Equal(names, []string{"def"}) || full != "include \"abc\" as def;\n" {
		t.Error(l, s, aimed, names, full)
	}
	if l, f := scan.Includes(loose); len(l) != 0 || f != (api.Fault{}) {
		t.Error(l, f)
	}
}

// R5: what a call answers hangs on its arguments alone, a fault of another call with it, ahead or beside.
func TestSameAnswers(t *testing.T) {
	ends := make(chan bool)
	for range 8 {
		go func() {
			good := true
			for i := range 500 {
				text := strings.Repeat(`include "a" as b; `, i%5) + []string{"", "include", "include @", "const", `include "a" as b`}[i%7%5]
				l, f := scan.Includes(text)
				want, head, why := slowIncludes(text)
				good = good && slices.Equal(l, want) && f == why && scan.Head(text) == head
			}
			ends <- good
		}()
	}
	for range 8 {
		if !<-ends {
			t.Error("another answer")
		}
	}
}
