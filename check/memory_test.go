package check_test

import (
	"bytes"
	"reflect"
	"slices"
	"strings"
	"testing"
	"unsafe"

	"treadle/api"
	"treadle/check"
)

// span is where a piece of memory lies, its spare room with it.
type span struct {
	from, to uintptr
	// What nobody holds any more could make place for another answer.
	held unsafe.Pointer
}

func (a span) meets(b span) bool { return a.from < b.to && b.from < a.to }

// spans are where all lists and texts of something lie.
func spans(x any) []span { return spansOf(reflect.ValueOf(x)) }

func spansOf(v reflect.Value) (all []span) {
	switch v.Kind() {
	case reflect.Struct:
		for i := range v.NumField() {
			all = append(all, spansOf(v.Field(i))...)
		}
	case reflect.Slice:
		at := v.UnsafePointer()
		all = append(all, span{uintptr(at), uintptr(at) + uintptr(v.Cap())*v.Type().Elem().Size(), at})
		for i := range v.Len() {
			all = append(all, spansOf(v.Index(i))...)
		}
	case reflect.String:
		// A text of one byte may lie in a table of the language's own, which nobody can change.
		if s := v.String(); len(s) > 1 {
			at := unsafe.Pointer(unsafe.StringData(s))
			all = append(all, span{uintptr(at), uintptr(at) + uintptr(len(s)), at})
		}
	}
	return all
}

// spread gives every list spare room behind its end, with something in it.
func spread(v reflect.Value) {
	switch v.Kind() {
	case reflect.Struct:
		for i := range v.NumField() {
			spread(v.Field(i))
		}
	case reflect.Slice:
		n := v.Len()
		l := reflect.MakeSlice(v.Type(), n+2, n+2)
		reflect.Copy(l, v)
		if n > 0 {
			l.Index(n + 1).Set(l.Index(0))
		}
		v.Set(l.Slice(0, n))
		for i := range n {
			spread(v.Index(i))
		}
	case reflect.String:
		v.SetString(strings.Clone(v.String()))
	}
}

// stretch makes every list as long as its room.
func stretch(v reflect.Value) {
	switch v.Kind() {
	case reflect.Struct:
		for i := range v.NumField() {
			stretch(v.Field(i))
		}
	case reflect.Slice:
		n := v.Len()
		v.Set(v.Slice(0, v.Cap()))
		for i := range n {
			stretch(v.Index(i))
		}
	}
}

// handed is all that is handed in.
type handed struct {
	Good, Wrong, None    api.Module
	Imports              []api.Import
	Own                  []api.Bind
	Literal, Name, Outer api.Expr
	Joined               api.Expr
	Texts                []api.Value
	Face, Bad            api.Face
	Bytes                []byte
}

const exporting = `include "t" as t; export const text = "alone"; export const outer = t.s; export const name = text; export const joined = "" ++ "alone"; export func f(a: int, b: text): text { var c = b; if a == 1 { c = t.s ++ name; } return c; } export func g(a: int) { t.h(a); print t.g(text, a); }`

func newHanded(t *testing.T) handed {
	src := strings.NewReplacer("const text", "const text1", "= text;", "= text1;", "(text,", "(text1,").Replace(exporting)
	h := handed{Good: read(t, src), Wrong: read(t, src+" const text1 = 1 / 0; func h(): int { print x; }"), None: read(t, src)}
	h.None.Consts[0].Name = "if"
	h.Imports = importsOf(h.Good)
	h.Own = []api.Bind{bind("a", textOf("own a")), bind("b", textOf("own b"))}
	h.Literal, h.Name, h.Outer, h.Joined = expr(t, `"literal"`), expr(t, "b"), expr(t, "t.s"), expr(t, `b ++ ""`)
	h.Texts = list(textOf("a text"), textOf(""))
	h.Face, h.Bad = rightFace(), rightFace()
	h.Bad.Funcs[0].Result = 9
	h.Bytes = slowBytes(rightFace())
	spread(reflect.ValueOf(&h).Elem())
	return h
}

// answers is all that is answered.
type answers struct {
	Face                                                 api.Face
	Wrong, None, Unfit                                   []api.Diag
	Literal, Name, Outer, Joined, Left, Right, No, Empty api.Value
	Bytes                                                []byte
	Read                                                 api.Face
}

func (h handed) ask(t *testing.T) (a answers) {
	t.Helper()
	var faults [4]api.Fault
	var errors [6]api.Errno
	var none, other []api.Diag
	a.Face, none = check.Module(h.Good, h.Imports...)
	_, a.Wrong = check.Module(h.Wrong, h.Imports...)
	_, a.None = check.Module(h.None, h.Imports...)
	_, a.Unfit = check.Module(h.Good)
	a.Literal, faults[0] = check.Value(h.Literal, h.Own, h.Imports...)
	a.Name, faults[1] = check.Value(h.Name, h.Own, h.Imports...)
	a.Outer, faults[2] = check.Value(h.Outer, h.Own, h.Imports...)
	a.Joined, faults[3] = check.Value(h.Joined, h.Own, h.Imports...)
	a.Left, errors[0] = check.Apply(api.OpJoin, h.Texts...)
	a.Right, errors[1] = check.Apply(api.OpJoin, h.Texts[1], h.Texts[0])
	a.Empty, errors[2] = check.Apply(api.OpJoin, h.Texts[1], h.Texts[1])
	a.No, errors[3] = check.Apply(api.OpEq, h.Texts...)
	a.Bytes, errors[4] = check.Bytes(h.Face)
	_, errors[5] = check.Digest(h.Face)
	read, f := check.Read(h.Bytes)
	a.Read = read
	check.Read(h.Bytes[1:])
	if !check.Right(h.Face) || check.Right(h.Bad) {
		other = append(other, api.Diag{})
	}
	check.Bytes(h.Bad)
	check.Digest(h.Bad)
	if len(none)+len(other) > 0 || f != (api.Fault{}) || faults != [4]api.Fault{} || errors != [6]api.Errno{} {
		t.Error(none, other, f, faults, errors)
	}
	return a
}

// good tells whether answers are what they must be.
func (a answers) good() bool {
	return shown(a.Face) == `joined "alone" name "alone" outer "xyz" text1 "alone" f(it)t g(i)-` && len(a.Wrong) == 2 && a.Wrong[0].Why == twice && a.Wrong[1].Why == unknown &&
		slices.Equal(a.None, []api.Diag{{Why: api.ErrForm}}) && slices.Equal(a.Unfit, []api.Diag{{Why: api.ErrArg}}) &&
		a.Literal == textOf("literal") && a.Name == textOf("own b") && a.Outer == textOf("xyz") && a.Joined == a.Name && a.Left == textOf("a text") && a.Right == a.Left && a.No == truthOf(false) && a.Empty == textOf("") &&
		bytes.Equal(a.Bytes, slowBytes(rightFace())) && equal(a.Read, rightFace())
}

// R4: an answer shares no memory with what was handed in, with another answer, and within itself.
func TestAnswersAreNewMemory(t *testing.T) {
	h := newHanded(t)
	others := spans(h)
	for range 2 {
		a := h.ask(t)
		if !a.good() {
			t.Error("another answer:", a)
		}
		for _, x := range spans(a) {
			if slices.ContainsFunc(others, x.meets) {
				t.Error("memory that is shared")
			}
			others = append(others, x)
		}
	}
}

// R4: what is handed in stays as it is, the spare room of its lists too.
func TestHandedStays(t *testing.T) {
	h, same := newHanded(t), newHanded(t)
	for range 3 {
		h.ask(t)
	}
	stretch(reflect.ValueOf(&h).Elem())
	stretch(reflect.ValueOf(&same).Elem())
	if !reflect.DeepEqual(h, same) {
		t.Error("what was handed in is another")
	}
}

// turnAll changes all that can be changed in an answer, the spare room of its lists too.
func turnAll(v reflect.Value) {
	switch v.Kind() {
	case reflect.Struct:
		for i := range v.NumField() {
			turnAll(v.Field(i))
		}
	case reflect.Slice:
		for i := range v.Cap() {
			turnAll(v.Slice(0, v.Cap()).Index(i))
		}
	case reflect.String:
		v.SetString("turned")
	case reflect.Bool:
		v.SetBool(!v.Bool())
	case reflect.Uint8:
		v.SetUint(v.Uint() ^ 1)
	default:
		v.SetInt(v.Int() + 1)
	}
}

// R4: what is told is the caller's: an answer that is changed changes no other one, nor what was handed in.
func TestTurnedAnswers(t *testing.T) {
	h := newHanded(t)
	kept := h.ask(t)
	for range 3 {
		a := h.ask(t)
		if !a.good() || !kept.good() {
			t.Fatal("another answer:", a, kept)
		}
		turnAll(reflect.ValueOf(&a).Elem())
	}
	if !kept.good() {
		t.Error("another answer:", kept)
	}
}

// R4: what is handed in is not kept: a text's memory may become another text.
func TestNothingIsKept(t *testing.T) {
	b := []byte("name function value")
	loose := func(from, to int) string { return unsafe.String(&b[from], to-from) }
	name, function, value := loose(0, 4), loose(5, 13), loose(14, 19)
	in := api.Import{Name: "t", Face: api.Face{Consts: []api.Bind{bind("k", textOf(value))}}}
	m := read(t, `include "t" as t; export const x = "x"; export const y = t.k; export func f(a: int) { }`)
	m.Consts[0].Name, m.Consts[0].Expr.Value.Text, m.Funcs[0].Name = name, value, function
	f, told := check.Module(m, in)
	literal, _ := check.Value(m.Consts[0].Expr, nil)
	own, _ := check.Value(expr(t, "a"), []api.Bind{bind("a", textOf(value))})
	outer, _ := check.Value(expr(t, "t.k"), nil, in)
	left, _ := check.Apply(api.OpJoin, textOf(value), textOf(""))
	right, _ := check.Apply(api.OpJoin, textOf(""), textOf(value))
	bytesOf := slowBytes(rightFace())
	back, _ := check.Read(bytesOf)
	for i := range b {
		b[i] = '-'
	}
	clear(bytesOf)
	if shown(f) != `name "value" y "value" function(i)-` || len(told) > 0 || !equal(back, rightFace()) {
		t.Error(shown(f), told, back)
	}
	for _, v := range list(literal, own, outer, left, right) {
		if v != textOf("value") {
			t.Error(v)
		}
	}
}

// R5: what a call answers hangs on its arguments alone, whatever is asked ahead of it or beside it.
func TestSameAnswers(t *testing.T) {
	type asked struct {
		m     api.Module
		in    []api.Import
		f     api.Face
		l     []api.Diag
		b     []byte
		d     api.Digest
		value api.Value
		fault api.Fault
	}
	ask := func(x asked) (a asked) {
		a.f, a.l = check.Module(x.m, x.in...)
		a.b, _ = check.Bytes(a.f)
		a.d, _ = check.Digest(a.f)
		if len(x.m.Consts) > 0 {
			a.value, a.fault = check.Value(x.m.Consts[0].Expr, nil, x.in...)
		}
		return a
	}
	r := newMaker(9, 60)
	var all []asked
	for range 300 {
		x := asked{}
		x.m, x.in = r.module()
		a := ask(x)
		a.m, a.in = x.m, x.in
		all = append(all, a)
	}
	ends := make(chan bool)
	for range 8 {
		go func() {
			good := true
			for _, x := range all {
				a := ask(x)
				again, f := check.Read(x.b)
				good = good && equal(a.f, x.f) && equal(a.l, x.l) && bytes.Equal(a.b, x.b) && a.d == x.d && a.value == x.value && a.fault == x.fault && equal(again, x.f) && f == (api.Fault{})
			}
			ends <- good
		}()
	}
	for range 8 {
		if !<-ends {
			t.Error("another answer")
		}
	}
}
