package code_test

import (
	"bytes"
	"reflect"
	"slices"
	"strings"
	"testing"
	"unsafe"

	"treadle/api"
	"treadle/code"
)

// span is where a piece of memory lies, its spare room with it.
type span struct {
	from, to uintptr
	// What nobody holds any more could make place for another answer.
	held unsafe.Pointer
}

func (a span) meets(b span) bool { return a.from < b.to && b.from < a.to }

// spans are where all lists of something lie.
func spans(v reflect.Value) (all []span) {
	switch v.Kind() {
	case reflect.Struct:
		for i := range v.NumField() {
			all = append(all, spans(v.Field(i))...)
		}
	case reflect.Slice:
		at := v.UnsafePointer()
		all = append(all, span{uintptr(at), uintptr(at) + uintptr(v.Cap())*v.Type().Elem().Size(), at})
		for i := range v.Len() {
			all = append(all, spans(v.Index(i))...)
		}
	}
	return all
}

// spread gives every list spare room behind its end, with something in it.
func spread(v reflect.Value) {
	switch v.Kind() {
	case reflect.Struct:
		for i := range v.NumField() {
			spread(v.Field(i))
		}
	case reflect.Slice:
		n := v.Len()
		l := reflect.MakeSlice(v.Type(), n+2, n+2)
		reflect.Copy(l, v)
		if n > 0 {
			l.Index(n + 1).Set(l.Index(0))
		}
		v.Set(l.Slice(0, n))
		for i := range n {
			spread(v.Index(i))
		}
	}
}

// stretch makes every list as long as its room.
func stretch(v reflect.Value) {
	switch v.Kind() {
	case reflect.Struct:
		for i := range v.NumField() {
			stretch(v.Field(i))
		}
	case reflect.Slice:
		n := v.Len()
		v.Set(v.Slice(0, v.Cap()))
		for i := range n {
			stretch(v.Index(i))
		}
	}
}

// handed is all that is handed in.
type handed struct {
	Object, Wrong  api.Object
	Program, Other api.Program
	Instrs, Bad    []api.Instr
	Bytes, None    []byte
	Lines, Unread  []string
}

func newHanded(t *testing.T) handed {
	h := handed{Object: rightObject(t), Wrong: rightObject(t), Program: rightProgram(t), Other: rightProgram(t)}
	h.Wrong.Procs[0].Code[5] = api.Instr{Code: api.CodeAdd}
	h.Other.Points[1] = h.Other.Points[0]
	h.Instrs, h.Bad = everyCode(300), append(everyCode(1), api.Instr{})
	h.Bytes, _ = slowBytes(h.Instrs)
	h.None = append(slices.Clone(h.Bytes), 0)
	h.Lines, _ = slowLines(h.Instrs)
	h.Unread = append(slices.Clone(h.Lines), "plus")
	spread(reflect.ValueOf(&h).Elem())
	return h
}

// answers is all that is answered.
type answers struct {
	Bytes                          []byte
	Read, Parsed                   []api.Instr
	Lines                          []string
	Heights                        []int
	Vars, Stack, LastVars, LastTop []api.Type
}

func (h handed) ask(t *testing.T) (a answers) {
	t.Helper()
	var faults [2]api.Fault
	var errors [5]api.Errno
	a.Bytes, errors[0] = code.Bytes(h.Instrs...)
	a.Lines, errors[1] = code.Lines(h.Instrs...)
	a.Read, faults[0] = code.Read(h.Bytes)
	a.Parsed, faults[1] = code.Parse(h.Lines...)
	a.Heights, errors[2] = code.Heights(h.Object, 0)
	a.Vars, a.Stack, errors[3] = code.Types(h.Object, 0, 2)
	a.LastVars, a.LastTop, errors[4] = code.Types(h.Object, 0, 8)
	if faults != [2]api.Fault{} || errors != [5]api.Errno{} {
		t.Error(faults, errors)
	}
	code.Bytes(h.Bad...)
	code.Lines(h.Bad...)
	code.Read(h.None)
	code.Parse(h.Unread...)
	code.Heights(h.Wrong, 0)
	code.Types(h.Wrong, 0, 1)
	_, e1 := code.Object(h.Object)
	_, e2 := code.Object(h.Wrong)
	_, e3 := code.Program(h.Program)
	_, e4 := code.Program(h.Other)
	if e1 != ok || e2 != badHigh && e2 != badKind || e3 != ok || e4 != badProc {
		t.Error(e1, e2, e3, e4)
	}
	return a
}

// good tells whether answers are what they must be.
func (a answers) good() bool {
	l := everyCode(300)
	b, _ := slowBytes(l)
	lines, _ := slowLines(l)
	return bytes.Equal(a.Bytes, b) && slices.Equal(a.Read, l) && slices.Equal(a.Parsed, l) && slices.Equal(a.Lines, lines) &&
		slices.Equal(a.Heights, list(0, 1, 2, 1, 0, 1, 0, 0, 1)) && shown(a.Vars) == "i-" && shown(a.Stack) == "it" && shown(a.LastVars) == "i-" && shown(a.LastTop) == "t"
}

// R4: an answer shares no memory with what was handed in, with another answer, and within itself.
func TestAnswersAreNewMemory(t *testing.T) {
	h := newHanded(t)
	others := spans(reflect.ValueOf(h))
	for range 2 {
		a := h.ask(t)
		if !a.good() {
			t.Error("another answer:", a)
		}
		for _, x := range spans(reflect.ValueOf(a)) {
			if slices.ContainsFunc(others, x.meets) {
				t.Error("memory that is shared")
			}
			others = append(others, x)
		}
	}
}

// R4: what is handed in stays as it is, the spare room of its lists too.
func TestHandedStays(t *testing.T) {
	h, same := newHanded(t), newHanded(t)
	for range 3 {
		h.ask(t)
	}
	stretch(reflect.ValueOf(&h).Elem())
	stretch(reflect.ValueOf(&same).Elem())
	if !reflect.DeepEqual(h, same) {
		t.Error("what was handed in is another")
	}
}

// turnAll changes all that can be changed in an answer, the spare room of its lists too.
func turnAll(v reflect.Value) {
	switch v.Kind() {
	case reflect.Struct:
		for i := range v.NumField() {
			turnAll(v.Field(i))
		}
	case reflect.Slice:
		for i := range v.Cap() {
			turnAll(v.Slice(0, v.Cap()).Index(i))
		}
	case reflect.String:
		v.SetString("turned")
	case reflect.Uint8:
		v.SetUint(v.Uint() ^ 1)
	default:
		v.SetInt(v.Int() + 1)
	}
}

// R4: what is told is the caller's: an answer that is changed changes no other one, nor what was handed in.
func TestTurnedAnswers(t *testing.T) {
	h := newHanded(t)
	kept := h.ask(t)
	for range 3 {
		a := h.ask(t)
		if !a.good() || !kept.good() {
			t.Fatal("another answer:", a, kept)
		}
		turnAll(reflect.ValueOf(&a).Elem())
	}
	if !kept.good() {
		t.Error("another answer:", kept)
	}
}

// R4: what is handed in is not kept: its memory may become something else.
func TestNothingIsKept(t *testing.T) {
	room := []byte("const 12")
	lines := list("drop", unsafe.String(&room[0], len(room)))
	l, f := code.Parse(lines...)
	c, e := code.Find(unsafe.String(&room[0], 5))
	b, _ := slowBytes(l)
	back, g := code.Read(b)
	out, _ := code.Bytes(l...)
	clear(b)
	clear(lines)
	for i := range room {
		room[i] = '-'
	}
	want := list(api.Instr{Code: api.CodeDrop}, api.Instr{Code: api.CodeConst, N: 12})
	if !slices.Equal(l, want) || !slices.Equal(back, want) || f != (api.Fault{}) || g != f || c != api.CodeConst || e != ok || string(out) != "\x02\x04\x01\x0c" {
		t.Error(l, back, f, g, c, e, out)
	}
	o := rightObject(t)
	vars, stack, _ := code.Types(o, 0, 2)
	heights, _ := code.Heights(o, 0)
	clear(o.Procs[0].Params)
	clear(o.Procs[0].Code)
	clear(o.Consts)
	if shown(vars)+shown(stack) != "i-it" || !slices.Equal(heights, list(0, 1, 2, 1, 0, 1, 0, 0, 1)) {
		t.Error(vars, stack, heights)
	}
}

// R4: a list that is empty may be nil, or not.
func TestEmptyLists(t *testing.T) {
	nils := api.Object{Path: "a", Procs: list(api.Proc{Name: "f", Code: asm(t, "return")})}
	empty := api.Object{Path: "a", Consts: []api.Value{}, Needs: []api.Need{}, Procs: list(api.Proc{Name: "f", Params: []api.Type{}, Code: asm(t, "return")})}
	for _, o := range list(nils, empty, api.Object{Path: "a"}, api.Object{Path: "a", Procs: []api.Proc{}}) {
		if spot, e := code.Object(o); spot != (api.Spot{}) || e != ok {
			t.Error(o, spot, e)
		}
	}
	for _, o := range list(nils, empty) {
		vars, stack, e := code.Types(o, 0, 0)
		if heights, f := code.Heights(o, 0); len(vars)+len(stack) > 0 || e != ok || f != ok || !slices.Equal(heights, list(0)) {
			t.Error(vars, stack, e, heights, f)
		}
	}
	for _, l := range list(nil, []api.Instr{}) {
		nils.Procs[0].Code = l
		if spot, e := code.Object(nils); spot != (api.Spot{}) || e != badProc {
			t.Error(spot, e)
		}
		b, e := code.Bytes(l...)
		lines, f := code.Lines(l...)
		if string(b) != "\x00" || len(lines) > 0 || e != ok || f != ok {
			t.Error(b, lines, e, f)
		}
	}
	p := api.Program{Consts: []api.Value{}, Procs: []api.Proc{}, Points: []api.Point{}}
	if spot, e := code.Program(p); spot != (api.Spot{}) || e != ok {
		t.Error(spot, e)
	}
	for _, b := range list(nil, []byte{}) {
		if l, f := code.Read(b); l != nil || f != (api.Fault{Why: api.ErrShort}) {
			t.Error(l, f)
		}
	}
	if l, f := code.Read([]byte{0}); len(l) > 0 || f != (api.Fault{}) {
		t.Error(l, f)
	}
	if l, f := code.Parse([]string{}...); len(l) > 0 || f != (api.Fault{}) {
		t.Error(l, f)
	}
}

// R5: what a call answers hangs on its arguments alone, whatever is asked ahead of it or beside it.
func TestSameAnswers(t *testing.T) {
	type asked struct {
		o       api.Object
		spot    api.Spot
		e       api.Errno
		heights []int
		stack   string
	}
	ask := func(o api.Object) asked {
		a := asked{o: o}
		a.spot, a.e = code.Object(o)
		a.heights, _ = code.Heights(o, 0)
		for at := range o.Procs[0].Code {
			vars, stack, _ := code.Types(o, 0, at)
			a.stack += shown(vars) + " " + shown(stack) + ";"
		}
		return a
	}
	r := newMaker(18, 7)
	var all []asked
	for range 400 {
		o := r.object()
		if r.one(3) {
			r.turn(&o.Procs[0])
		}
		all = append(all, ask(o))
	}
	ends := make(chan string)
	for range 8 {
		go func() {
			bad := ""
			for _, x := range all {
				if a := ask(x.o); a.spot != x.spot || a.e != x.e || !slices.Equal(a.heights, x.heights) || a.stack != x.stack {
					bad = strings.Clone(a.stack)
				}
			}
			ends <- bad
		}()
	}
	for range 8 {
		if bad := <-ends; bad != "" {
			t.Error("another answer:", bad)
		}
	}
}
