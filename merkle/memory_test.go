package merkle_test

import (
	"bytes"
	"fmt"
	"slices"
	"strings"
	"testing"
	"unsafe"

	"treadle/api"
	"treadle/merkle"
)

// roomy is a copy of a list with spare room behind its end, which is filled, too.
func roomy[T any](l []T, spare T) []T {
	b := make([]T, len(l), len(l)+5)
	copy(b, l)
	for i := range b[len(l):cap(b)] {
		b[len(l):cap(b)][i] = spare
	}
	return b
}

// span is where a piece of memory lies.
type span struct {
	from, to uintptr
	// What nobody holds any more could make place for another answer.
	held unsafe.Pointer
}

func spanOf(s string) span {
	at := unsafe.Pointer(unsafe.StringData(s))
	return span{uintptr(at), uintptr(at) + uintptr(len(s)), at}
}

// spanOfList is where a list lies, with its spare room.
func spanOfList[T any](l []T) span {
	at := unsafe.Pointer(unsafe.SliceData(l))
	var one T
	return span{uintptr(at), uintptr(at) + uintptr(cap(l))*unsafe.Sizeof(one), at}
}

func (a span) meets(b span) bool { return a.from < b.to && b.from < a.to }

func entrySpans(l []api.Entry) []span {
	out := []span{spanOfList(l)}
	for _, e := range l {
		out = append(out, spanOf(e.Path), spanOf(e.Data))
	}
	return out
}

func nodeSpans(lists ...[]api.Node) []span {
	var out []span
	for _, l := range lists {
		out = append(out, spanOfList(l))
		for _, n := range l {
			out = append(out, spanOf(n.Name))
		}
	}
	return out
}

// given is what each call is handed, in memory of its own.
type given struct {
	t, u  []api.Entry
	b     []byte
	l     []api.Node
	proof [][]api.Node
	p     string
	root  api.Digest
}

func ownTree(l []api.Entry) []api.Entry {
	var t []api.Entry
	for _, e := range l {
		t = append(t, api.Entry{Path: strings.Clone(e.Path), Kind: e.Kind, Data: strings.Clone(e.Data)})
	}
	return roomy(t, f("spare", "spare"))
}

func ownNodes(l []api.Node) []api.Node {
	var out []api.Node
	for _, n := range l {
		n.Name = strings.Clone(n.Name)
		out = append(out, n)
	}
	return roomy(out, node("spare", 1))
}

func newGiven() given {
	m := tableOf(wide())
	g := given{t: ownTree(wide()), u: ownTree(append(wide()[:14:14], f("c", "x"))), p: strings.Clone("a/a/c"), root: m.digest("")}
	g.b = roomy(slowBytes(wide()), 7)
	g.l = ownNodes(m.nodes(""))
	for _, dir := range []string{"", "a", "a/a"} {
		g.proof = append(g.proof, ownNodes(m.nodes(dir)))
	}
	g.proof = roomy(g.proof, nodes(node("spare", 1)))
	return g
}

func (g given) spans() []span {
	out := append(entrySpans(g.t), entrySpans(g.u)...)
	out = append(append(out, nodeSpans(g.l)...), nodeSpans(g.proof...)...)
	return append(out, spanOfList(g.b), spanOfList(g.proof), spanOf(g.p))
}

// same looks at the spare room, too.
func (g given) same(h given) bool {
	whole := func(l []api.Node) []api.Node { return l[:cap(l)] }
	sameLists := slices.EqualFunc(g.proof[:cap(g.proof)], h.proof[:cap(h.proof)], func(a, b []api.Node) bool {
		return len(a) == len(b) && slices.Equal(whole(a), whole(b))
	})
	return slices.Equal(g.t[:cap(g.t)], h.t[:cap(h.t)]) && slices.Equal(g.u[:cap(g.u)], h.u[:cap(h.u)]) &&
		bytes.Equal(g.b[:cap(g.b)], h.b[:cap(h.b)]) && slices.Equal(whole(g.l), whole(h.l)) && sameLists && g.p == h.p
}

// answer is what a call told, where its memory lies, and how to write all over it.
type answer struct {
	text  string
	spans []span
	spoil func()
}

func overwrite[T any](l []T, with T) {
	for i := range l[:cap(l)] {
		l[:cap(l)][i] = with
	}
}

func bytesAnswer(b []byte, e api.Errno) answer {
	return answer{fmt.Sprintf("%x, %d", b, e), []span{spanOfList(b)}, func() { overwrite(b, 9) }}
}

func nodesAnswer(l []api.Node, e api.Errno) answer {
	return answer{fmt.Sprintf("%v, %d", l, e), nodeSpans(l), func() { overwrite(l, node("other", 3)) }}
}

func proofAnswer(l [][]api.Node, e api.Errno) answer {
	return answer{fmt.Sprintf("%v, %d", l, e), append(nodeSpans(l...), spanOfList(l)), func() {
		for _, list := range l {
			overwrite(list, node("other", 3))
		}
		overwrite(l, nil)
	}}
}

func plainAnswer(v any) answer { return answer{fmt.Sprint(v), nil, func() {}} }

// calls are all calls of the package, each of what it takes.
func calls() map[string]func(g given) answer {
	return map[string]func(g given) answer{
		"Bytes": func(g given) answer { return bytesAnswer(merkle.Bytes(g.t)) },
		"Pack":  func(g given) answer { return bytesAnswer(merkle.Pack(g.l...)) },
		"Read": func(g given) answer {
			t, why := merkle.Read(g.b)
			// Of bytes that become a text of one byte the language keeps a table of its own: these may be met twice.
			spans := slices.DeleteFunc(entrySpans(t), func(s span) bool { return s.to-s.from == 1 })
			return answer{fmt.Sprintf("%v, %v", t, why), spans, func() { overwrite(t, f("other", "other")) }}
		},
		"Nodes":      func(g given) answer { return nodesAnswer(merkle.Nodes(g.t, "")) },
		"Nodes of a": func(g given) answer { return nodesAnswer(merkle.Nodes(g.t, g.t[1].Path)) },
		"Prove":      func(g given) answer { return proofAnswer(merkle.Prove(g.t, g.p)) },
		"Prove far":  func(g given) answer { return proofAnswer(merkle.Prove(g.t, "ab/a/a/z/z")) },
		"Verify": func(g given) answer {
			n, e := merkle.Verify(g.root, g.p, g.proof)
			return answer{fmt.Sprintf("%v, %d", n, e), []span{spanOf(n.Name)}, func() {}}
		},
		"Differ": func(g given) answer {
			l, n, e := merkle.Differ(g.t, g.u)
			spans := []span{spanOfList(l)}
			for _, p := range l {
				spans = append(spans, spanOf(p))
			}
			return answer{fmt.Sprintf("%q, %d, %d", l, n, e), spans, func() { overwrite(l, "other") }}
		},
		"Leaf": func(g given) answer {
			d, e := merkle.Leaf(g.t[4])
			return plainAnswer([]any{d, e})
		},
		"Dir": func(g given) answer {
			d, e := merkle.Dir(g.l...)
			return plainAnswer([]any{d, e})
		},
		"Digest": func(g given) answer {
			d, e := merkle.Digest(g.t)
			return plainAnswer([]any{d, e})
		},
		"Of": func(g given) answer {
			d, e := merkle.Of(g.t, g.p)
			return plainAnswer([]any{d, e})
		},
	}
}

func meet(a, b []span) bool {
	return slices.ContainsFunc(a, func(x span) bool { return slices.ContainsFunc(b, x.meets) })
}

// R4: nothing that is handed in is changed, its spare room neither, and an answer is new memory, its spare room and its texts, too.
func TestAnswersAreNewMemory(t *testing.T) {
	for name, call := range calls() {
		g := newGiven()
		got, again := call(g), call(g)
		if !strings.HasSuffix(strings.Trim(got.text, "]}"), " 0") {
			t.Errorf("%s: %s", name, show(got.text))
		}
		if !g.same(newGiven()) {
			t.Errorf("%s changed what it was handed", name)
		}
		if meet(got.spans, g.spans()) {
			t.Errorf("%s answered memory of its argument", name)
		}
		if meet(got.spans, again.spans) {
			t.Errorf("%s answered memory of another answer", name)
		}
		for i, a := range got.spans {
			if meet([]span{a}, got.spans[i+1:]) {
				t.Errorf("%s answered one piece of memory twice", name)
			}
		}
		got.spoil()
		if !g.same(newGiven()) {
			t.Errorf("%s answered memory of its argument", name)
		}
		if third := call(g); third.text != again.text {
			t.Errorf("%s kept what was answered: %s", name, show(third.text))
		}
	}
}

// R4: what an answer tells does not turn with what was handed in.
func TestAnswersStay(t *testing.T) {
	g := newGiven()
	b, _ := merkle.Bytes(g.t)
	back, _ := merkle.Read(g.b)
	packed, _ := merkle.Pack(g.l...)
	list, _ := merkle.Nodes(g.t, "")
	proof, _ := merkle.Prove(g.t, g.p)
	clear(g.t[:cap(g.t)])
	clear(g.b[:cap(g.b)])
	clear(g.l[:cap(g.l)])
	h := newGiven()
	if !bytes.Equal(b, h.b) || !slices.Equal(back, h.t) || !bytes.Equal(packed, slowPack(h.l)) || !slices.Equal(list, h.l) || !sameProof(proof, h.proof) {
		t.Error("an answer was turned with what was handed in")
	}
}

// R4: what is refused is not changed, either.
func TestRefusedIsNotChanged(t *testing.T) {
	g := newGiven()
	merkle.Bytes(append(slices.Clone(g.t), g.t[0]))
	merkle.Read(g.b[:len(g.b)-1])
	merkle.Read(g.b[:cap(g.b)])
	merkle.Nodes(g.t, "A")
	merkle.Of(g.t, "zz")
	merkle.Prove(g.t, "")
	merkle.Pack(append(slices.Clone(g.l), g.l[0])...)
	merkle.Dir(g.l[:cap(g.l)]...)
	merkle.Verify(g.root, "a", g.proof)
	merkle.Verify(g.root, g.p, g.proof[:cap(g.proof)])
	merkle.Verify(api.Digest{}, g.p, g.proof)
	if !g.same(newGiven()) {
		t.Error("what was handed in was changed")
	}
}

// R5: calls know nothing of one another.
func TestCallsApart(t *testing.T) {
	for name, call := range calls() {
		want := call(newGiven()).text
		for other, between := range calls() {
			between(newGiven())
			if got := call(newGiven()).text; got != want {
				t.Errorf("%s behind %s: %s", name, other, show(got))
			}
		}
	}
}
