package parse_test

import (
	"reflect"
	"strings"
	"testing"
	"unsafe"

	"treadle/api"
	"treadle/parse"
)

// span is where a piece of memory lies.
type span struct {
	from, to uintptr
	// What nobody holds any more could make place for another answer.
	held unsafe.Pointer
}

func (a span) meets(b span) bool { return a.from < b.to && b.from < a.to }

// spansOf are all texts and lists of a value, lists with their spare room.
func spansOf(v reflect.Value) (all []span) {
	switch v.Kind() {
	case reflect.Struct:
		for i := range v.NumField() {
			all = append(all, spansOf(v.Field(i))...)
		}
	case reflect.Slice:
		at := v.UnsafePointer()
		all = append(all, span{uintptr(at), uintptr(at) + uintptr(v.Cap())*v.Type().Elem().Size(), at})
		for i := range v.Len() {
			all = append(all, spansOf(v.Index(i))...)
		}
	case reflect.String:
		s := v.String()
		at := unsafe.Pointer(unsafe.StringData(s))
		all = append(all, span{uintptr(at), uintptr(at) + uintptr(len(s)), at})
	}
	return all
}

const full = `include "a.m" as a; include "./b.m" as b; const c = "xyz" ++ "\n"; export func f(x: int, y: text): int { var i = a.one; if i < x { i = b.two(x, -i); } else if y == "q" { return; } else { a.three(); print (i); } while true { f("r", i); } }`

// answers are the memory of all that is told of a source.
func answers(src string) (all []span) {
	m, _ := parse.Module(src, 999)
	e, _ := parse.Expr(src[strings.Index(src, "b.two"):strings.Index(src, "; } else if")], 999)
	return append(spansOf(reflect.ValueOf(m)), spansOf(reflect.ValueOf(e))...)
}

// R4: a tree shares no memory with its source, with another answer, and within itself.
func TestAnswersAreNewMemory(t *testing.T) {
	src := strings.Clone(full)
	source := spansOf(reflect.ValueOf(src))[0]
	answered := append(answers(src), answers(src)...)
	n := 0
	for i, a := range answered {
		if a.from < a.to {
			n++
		}
		if a.meets(source) {
			t.Errorf("answer %d is a piece of the source", i)
		}
		for j, b := range answered[:i] {
			if a.meets(b) {
				t.Errorf("answers %d and %d share memory", i, j)
			}
		}
	}
	if n < 100 {
		t.Error("too few answers:", n)
	}
}

// R4: what is handed in is not kept: its memory may become another text.
func TestNothingIsKept(t *testing.T) {
	b := []byte(full)
	m, f := parse.Module(unsafe.String(&b[0], len(b)), 999)
	tokens := []byte("constc=1;")
	fits := parse.Fits(unsafe.String(&tokens[0], 5), unsafe.String(&tokens[5], 1), "=", "1", ";")
	for i := range b {
		b[i] = '-'
	}
	want, _ := parse.Module(full, 999)
	if f != (api.Fault{}) || !equal(m, want) || !fits {
		t.Error(m, f, fits)
	}
	if m, f := parse.Module(unsafe.String(&b[0], len(b)), 999); f != fault(api.ErrSyntax, 0) || !equal(m, api.Module{}) {
		t.Error(m, f)
	}
}

// spread gives every list of a tree spare room behind its end, with something in it.
func spread(v reflect.Value) {
	switch v.Kind() {
	case reflect.Struct:
		for i := range v.NumField() {
			spread(v.Field(i))
		}
	case reflect.Slice:
		n := v.Len()
		l := reflect.MakeSlice(v.Type(), n+2, n+2)
		reflect.Copy(l, v)
		if n > 0 {
			l.Index(n + 1).Set(l.Index(0))
		}
		v.Set(l.Slice(0, n))
		for i := range n {
			spread(v.Index(i))
		}
	}
}

// stretch makes every list of a tree as long as its room.
func stretch(v reflect.Value) {
	switch v.Kind() {
	case reflect.Struct:
		for i := range v.NumField() {
			stretch(v.Field(i))
		}
	case reflect.Slice:
		n := v.Len()
		v.Set(v.Slice(0, v.Cap()))
		for i := range n {
			stretch(v.Index(i))
		}
	}
}

// R4: trees and lists that are handed in stay as they are, their spare room too.
func TestTreesStay(t *testing.T) {
	tree := func() api.Module {
		m, _ := parse.Module(full, 999)
		spread(reflect.ValueOf(&m).Elem())
		return m
	}
	m, same := tree(), tree()
	for range 2 {
		if !parse.Right(m) || !parse.RightExpr(m.Consts[0].Expr) {
			t.Error("not right")
		}
		wrong := m
		wrong.Includes = append([]api.Include{{}}, m.Includes...)
		if parse.Right(wrong) {
			t.Error("right")
		}
	}
	stretch(reflect.ValueOf(&m).Elem())
	stretch(reflect.ValueOf(&same).Elem())
	if !reflect.DeepEqual(m, same) {
		t.Error("another tree")
	}
	tokens := []string{"const", "c", "=", "1", ";", "spare", "room"}
	if !parse.Fits(tokens[:5]...) || parse.Fits(tokens[:4]...) || strings.Join(tokens, " ") != "const c = 1 ; spare room" {
		t.Error(tokens)
	}
}

// turnAll changes all that can be changed in an answer, the spare room of its lists too.
func turnAll(v reflect.Value) {
	switch v.Kind() {
	case reflect.Struct:
		for i := range v.NumField() {
			turnAll(v.Field(i))
		}
	case reflect.Slice:
		for i := range v.Cap() {
			turnAll(v.Slice(0, v.Cap()).Index(i))
		}
	case reflect.String:
		v.SetString("turned")
	case reflect.Bool:
		v.SetBool(!v.Bool())
	default:
		v.SetInt(v.Int() + 1)
	}
}

// R4: an answer that is changed changes no other one.
func TestTurnedAnswers(t *testing.T) {
	first, _ := parse.Module(full, 999)
	same, _ := parse.Module(full, 999)
	if !equal(first, same) {
		t.Fatal("two answers")
	}
	turnAll(reflect.ValueOf(&same).Elem())
	if again, f := parse.Module(full, 999); f != (api.Fault{}) || !equal(first, again) || equal(first, same) {
		t.Error(again, f)
	}
}

// R5: what a call answers hangs on its arguments alone, a fault of another call with it, ahead or beside.
func TestSameAnswers(t *testing.T) {
	type answer struct {
		m    api.Module
		e    api.Expr
		f, g api.Fault
	}
	ask := func(i int) (a answer) {
		src := samples[i%len(samples)]
		src = src[:len(src)-i%5*7]
		a.m, a.f = parse.Module(src, i%40)
		a.e, a.g = parse.Expr(nested("(", i%70, "1", ")"), 200)
		return a
	}
	var want []answer
	for i := range 300 {
		want = append(want, ask(i))
	}
	ends := make(chan bool)
	for range 8 {
		go func() {
			good := true
			for i := range want {
				good = good && equal(ask(i), want[i])
			}
			ends <- good
		}()
	}
	for range 8 {
		if !<-ends {
			t.Error("another answer")
		}
	}
}
