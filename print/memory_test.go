package print_test

import (
	"reflect"
	"strings"
	"testing"
	"unsafe"

	"treadle/api"
	"treadle/parse"
	"treadle/print"
)

const full = `include "a.m" as a; include "./b.m" as b; const c = "xyz" ++ "\n"; export func f(x: int, y: text): int { var i = a.one; if i < x { i = b.two(x, -i); } else if y == "q" { return; } else { a.three(); print i; } while true { f("r", i); } }`

// span is where a text lies.
type span struct {
	from, to uintptr
	// What nobody holds any more could make place for another answer.
	held unsafe.Pointer
}

func spanOf(s string) span {
	at := unsafe.Pointer(unsafe.StringData(s))
	return span{uintptr(at), uintptr(at) + uintptr(len(s)), at}
}

func (a span) meets(b span) bool { return a.from < b.to && b.from < a.to }

// textsOf are all texts of a tree.
func textsOf(v reflect.Value) (all []span) {
	switch v.Kind() {
	case reflect.Struct:
		for i := range v.NumField() {
			all = append(all, textsOf(v.Field(i))...)
		}
	case reflect.Slice:
		for i := range v.Len() {
			all = append(all, textsOf(v.Index(i))...)
		}
	case reflect.String:
		all = append(all, spanOf(v.String()))
	}
	return all
}

// R4: an answer shares no memory with what is handed in, nor with another answer.
func TestAnswersAreNewMemory(t *testing.T) {
	m, _ := parse.Module(full, 999)
	laid, _ := print.Module(m)
	source := strings.Clone(laid)
	one := name(strings.Clone("alone"))
	word := strings.Clone("text")
	handed := append(textsOf(reflect.ValueOf(m)), spanOf(source), spanOf(one.Name), spanOf(word))
	var answered []span
	for range 2 {
		laid, _ := print.Module(m)
		short, _ := print.Tight(m)
		sum, _ := print.Expr(m.Consts[0].Expr)
		alone, _ := print.Expr(one)
		value, _ := print.Value(api.Value{Type: api.TypeText, Text: word})
		again, _ := print.Format(source)
		for _, s := range []string{laid, short, sum, alone, value, again} {
			if s == "" {
				t.Error("no answer")
			}
			answered = append(answered, spanOf(s))
		}
	}
	for i, a := range answered {
		for _, b := range append(handed, answered[:i]...) {
			if a.meets(b) {
				t.Errorf("answer %d shares memory", i)
			}
		}
	}
}

// spread gives every list of a tree spare room behind its end, with something in it.
func spread(v reflect.Value) {
	switch v.Kind() {
	case reflect.Struct:
		for i := range v.NumField() {
			spread(v.Field(i))
		}
	case reflect.Slice:
		n := v.Len()
		l := reflect.MakeSlice(v.Type(), n+2, n+2)
		reflect.Copy(l, v)
		if n > 0 {
			l.Index(n + 1).Set(l.Index(0))
		}
		v.Set(l.Slice(0, n))
		for i := range n {
			spread(v.Index(i))
		}
	}
}

// stretch makes every list of a tree as long as its room.
func stretch(v reflect.Value) {
	switch v.Kind() {
	case reflect.Struct:
		for i := range v.NumField() {
			stretch(v.Field(i))
		}
	case reflect.Slice:
		n := v.Len()
		v.Set(v.Slice(0, v.Cap()))
		for i := range n {
			stretch(v.Index(i))
		}
	}
}

// R4: trees that are handed in stay as they are, the spare room of their lists too, and errors leave them as well.
func TestTreesStay(t *testing.T) {
	tree := func() api.Module {
		m, _ := parse.Module(full, 999)
		spread(reflect.ValueOf(&m).Elem())
		return m
	}
	m, same := tree(), tree()
	want, _ := print.Format(full)
	for range 2 {
		laid, e := print.Module(m)
		short, f := print.Tight(m)
		if laid != want || e != api.OK || len(short) >= len(laid) || f != api.OK {
			t.Errorf("%q %v %q %v", laid, e, short, f)
		}
		if s, e := print.Expr(m.Consts[0].Expr); s != `"xyz" ++ "\n"` || e != api.OK {
			t.Error(s, e)
		}
		if n := print.Levels(m); n != 4 || !print.Same(m, m) || !print.SameExpr(m.Consts[0].Expr, m.Consts[0].Expr) {
			t.Error(n)
		}
		wrong := m
		wrong.Includes = append([]api.Include{{}}, m.Includes...)
		if s, e := print.Module(wrong); s != "" || e != api.ErrForm || print.Same(m, wrong) {
			t.Error(s, e)
		}
	}
	stretch(reflect.ValueOf(&m).Elem())
	stretch(reflect.ValueOf(&same).Elem())
	if !reflect.DeepEqual(m, same) {
		t.Error("another tree")
	}
}

// R4: what is handed in is not kept: a tree that is changed, or a source whose memory becomes another text, leaves the answers.
func TestNothingIsKept(t *testing.T) {
	b := []byte(full)
	m, _ := parse.Module(full, 999)
	want, _ := print.Module(m)
	got, f := print.Format(unsafe.String(&b[0], len(b)))
	laid, _ := print.Module(m)
	for i := range b {
		b[i] = '-'
	}
	m.Includes[0].Path, m.Funcs[0].Body[0].Name, m.Consts = "other.m", "other", nil
	if got != want || laid != want || f != (api.Fault{}) {
		t.Errorf("%q %q %v", got, laid, f)
	}
	if s, e := print.Module(m); s == want || !strings.Contains(s, "other.m") || e != api.OK {
		t.Errorf("%q %v", s, e)
	}
}

// R5: what a call answers hangs on its arguments alone, whatever is asked ahead of it or beside it.
func TestSameAnswers(t *testing.T) {
	type answer struct {
		laid, short, sum, value, format string
		e, f, g, h                      api.Errno
		fault                           api.Fault
		levels                          int
	}
	ask := func(i int) (a answer) {
		src := samples[i%len(samples)]
		m, _ := parse.Module(src, 999)
		deep := deep(i%70, number(1), func(e api.Expr) api.Expr { return unary(api.OpNeg, e) })
		if i%3 == 0 {
			m.Consts = append(m.Consts, api.Const{Name: "c", Expr: deep})
		}
		a.laid, a.e = print.Module(m)
		a.short, a.f = print.Tight(m)
		a.sum, a.g = print.Expr(deep)
		a.value, a.h = print.Value(api.Value{Type: api.Type(i % 4), Int: int64(i % 2)})
		a.format, a.fault = print.Format(src[:len(src)-i%5*7])
		a.levels = print.Levels(m)
		return a
	}
	var want []answer
	for i := range 300 {
		want = append(want, ask(i))
	}
	ends := make(chan bool)
	for range 8 {
		go func() {
			good := true
			for i := range want {
				good = good && ask(i) == want[i]
			}
			ends <- good
		}()
	}
	for range 8 {
		if !<-ends {
			t.Error("another answer")
		}
	}
}
