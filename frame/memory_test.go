package frame_test

import (
	"bytes"
	"fmt"
	"slices"
	"strings"
	"testing"
	"unsafe"

	"treadle/api"
	"treadle/frame"
)

// roomy is a copy of a list with spare room behind its end, which is filled, too.
func roomy[T any](l []T, spare T) []T {
	b := make([]T, len(l), len(l)+5)
	copy(b, l)
	for i := range b[len(l):cap(b)] {
		b[len(l):cap(b)][i] = spare
	}
	return b
}

// span is where a piece of memory lies.
type span struct {
	from, to uintptr
	// What nobody holds any more could make place for another answer.
	held unsafe.Pointer
}

func spanOf(s string) span {
	at := unsafe.Pointer(unsafe.StringData(s))
	return span{uintptr(at), uintptr(at) + uintptr(len(s)), at}
}

// spanOfList is where a list lies, with its spare room.
func spanOfList[T any](l []T) span {
	at := unsafe.Pointer(unsafe.SliceData(l))
	var one T
	return span{uintptr(at), uintptr(at) + uintptr(cap(l))*unsafe.Sizeof(one), at}
}

func (a span) meets(b span) bool { return a.from < b.to && b.from < a.to }

func meet(a, b []span) bool {
	return slices.ContainsFunc(a, func(x span) bool { return slices.ContainsFunc(b, x.meets) })
}

func frameSpans(f api.Frame) []span {
	out := []span{spanOfList(f.Args), spanOf(f.Body)}
	for _, s := range f.Args {
		out = append(out, spanOf(s))
	}
	return out
}

// given is what each call is handed, in memory of its own.
type given struct {
	f, g    api.Frame
	l       []api.Frame
	b       []byte
	args    []string
	text    string
	behind  []byte // of b, with more behind it
	notWell []byte // of b, with a turned bit
}

// ownFrame has texts of more than one byte alone: of these the language keeps no table of its own.
func ownFrame() api.Frame {
	args := []string{strings.Clone("first"), strings.Clone("second"), strings.Clone("third")}
	return api.Frame{Kind: 2, Id: 7, Limits: limits(1, 2, 3), Args: roomy(args, "spare"), Body: strings.Clone("some body")}
}

func newGiven() given {
	v := given{f: ownFrame(), g: ownFrame(), text: strings.Clone("some text")}
	v.l = roomy([]api.Frame{ownFrame(), {Kind: 5}, {Kind: 3, Id: 1, Status: 1, Body: strings.Clone("payload")}}, ownFrame())
	b, _ := slowEncode(ownFrame())
	v.b = roomy(b, 7)
	v.args = roomy([]string{strings.Clone("one arg"), strings.Clone("two")}, "spare")
	v.behind = roomy(append(slices.Clone(b), 1, 2), 7)
	v.notWell = roomy(turned(b, 77, 5), 7)
	return v
}

func (v given) spans() []span {
	out := append(frameSpans(v.f), frameSpans(v.g)...)
	for _, f := range v.l {
		out = append(out, frameSpans(f)...)
	}
	for _, s := range v.args {
		out = append(out, spanOf(s))
	}
	return append(out, spanOfList(v.l), spanOfList(v.b), spanOfList(v.args), spanOf(v.text))
}

func sameWhole(a, b api.Frame) bool {
	args := slices.Equal(a.Args[:cap(a.Args)], b.Args[:cap(b.Args)]) && len(a.Args) == len(b.Args)
	a.Args, b.Args = nil, nil
	return args && frame.Same(a, b)
}

// same looks at the spare room, too.
func (v given) same(w given) bool {
	whole := func(a, b []byte) bool { return len(a) == len(b) && bytes.Equal(a[:cap(a)], b[:cap(b)]) }
	return sameWhole(v.f, w.f) && sameWhole(v.g, w.g) && slices.EqualFunc(v.l[:cap(v.l)], w.l[:cap(w.l)], sameWhole) &&
		whole(v.b, w.b) && whole(v.behind, w.behind) && whole(v.notWell, w.notWell) &&
		slices.Equal(v.args[:cap(v.args)], w.args[:cap(w.args)]) && v.text == w.text
}

// answer is what a call told, where its memory lies, and how to write all over it.
type answer struct {
	text  string
	spans []span
	spoil func()
}

func overwrite[T any](l []T, with T) {
	for i := range l[:cap(l)] {
		l[:cap(l)][i] = with
	}
}

func bytesAnswer(b []byte, e api.Errno) answer {
	return answer{fmt.Sprintf("%x, %d", b, e), []span{spanOfList(b)}, func() { overwrite(b, 9) }}
}

func frameAnswer(f api.Frame) answer {
	return answer{fmt.Sprintf("%+v", f), frameSpans(f), func() { overwrite(f.Args, "other") }}
}

func plainAnswer(l ...any) answer { return answer{fmt.Sprint(l...), nil, func() {}} }

// calls are all calls of the package, each of what it takes.
func calls() map[string]func(v given) answer {
	return map[string]func(v given) answer{
		"Check":  func(v given) answer { return plainAnswer(frame.Check(v.f)) },
		"Encode": func(v given) answer { return bytesAnswer(frame.Encode(v.f)) },
		"Size": func(v given) answer {
			n, e := frame.Size(v.f)
			return plainAnswer(n, e)
		},
		"Need": func(v given) answer {
			n, e := frame.Need(v.b)
			return plainAnswer(n, e)
		},
		"Decode": func(v given) answer {
			f, why := frame.Decode(v.b)
			a := frameAnswer(f)
			a.text += fmt.Sprint(why)
			return a
		},
		"Decode with more": func(v given) answer {
			f, why := frame.Decode(v.behind)
			return plainAnswer(f, why)
		},
		"Decode turned": func(v given) answer {
			f, why := frame.Decode(v.notWell)
			return plainAnswer(f, why)
		},
		"Same":        func(v given) answer { return plainAnswer(frame.Same(v.f, v.g)) },
		"All":         func(v given) answer { return bytesAnswer(frame.All(v.l...)) },
		"All of one":  func(v given) answer { return bytesAnswer(frame.All(v.l[:1]...)) },
		"All refused": func(v given) answer { return bytesAnswer(frame.All(append(v.l[:2:2], api.Frame{})...)) },
		"Hello":       func(v given) answer { return frameAnswer(frame.Hello(3, tool())) },
		"Request":     func(v given) answer { return frameAnswer(frame.Request(1, limits(1, 2, 3), v.text, v.args...)) },
		"Response":    func(v given) answer { return frameAnswer(frame.Response(1, 1, v.text)) },
		"Cancel":      func(v given) answer { return frameAnswer(frame.Cancel(1)) },
		"Bye":         func(v given) answer { return frameAnswer(frame.Bye()) },
		"Note":        func(v given) answer { return frameAnswer(frame.Note(v.text)) },
	}
}

// R4: nothing that is handed in is changed, its spare room neither, and an answer is new memory, its spare room and its texts, too.
func TestAnswersAreNewMemory(t *testing.T) {
	for name, call := range calls() {
		v := newGiven()
		got, again := call(v), call(v)
		if !v.same(newGiven()) {
			t.Errorf("%s changed what it was handed", name)
		}
		if meet(got.spans, v.spans()) {
			t.Errorf("%s answered memory of its argument", name)
		}
		if meet(got.spans, again.spans) {
			t.Errorf("%s answered memory of another answer", name)
		}
		for i, a := range got.spans {
			if meet([]span{a}, got.spans[i+1:]) {
				t.Errorf("%s answered one piece of memory twice", name)
			}
		}
		got.spoil()
		if !v.same(newGiven()) {
			t.Errorf("%s answered memory of its argument", name)
		}
		if third := call(v); third.text != again.text {
			t.Errorf("%s kept what was answered: %s", name, show(third.text))
		}
	}
}

// R4: what an answer tells does not turn with what was handed in.
func TestAnswersStay(t *testing.T) {
	v := newGiven()
	b, _ := frame.Encode(v.f)
	f, _ := frame.Decode(v.b)
	all, _ := frame.All(v.l...)
	r := frame.Request(1, limits(1, 2, 3), v.text, v.args...)
	clear(v.f.Args[:cap(v.f.Args)])
	clear(v.b[:cap(v.b)])
	clear(v.l[:cap(v.l)])
	clear(v.args[:cap(v.args)])
	w := newGiven()
	var want []byte
	for _, f := range w.l {
		one, _ := slowEncode(f)
		want = append(want, one...)
	}
	if !bytes.Equal(b, w.b) || !frame.Same(f, w.f) || !bytes.Equal(all, want) || !slices.Equal(r.Args, w.args) {
		t.Error("an answer was turned with what was handed in")
	}
}

// R5: calls know nothing of one another.
func TestCallsApart(t *testing.T) {
	for name, call := range calls() {
		want := call(newGiven()).text
		for other, between := range calls() {
			between(newGiven())
			if got := call(newGiven()).text; got != want {
				t.Errorf("%s behind %s: %s", name, other, show(got))
			}
		}
	}
}
