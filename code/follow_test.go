package code_test

import (
	"slices"
	"testing"

	"treadle/api"
	"treadle/code"
)

// holdObject tells whether Object says of an object what is found slowly.
func holdObject(t *testing.T, o api.Object) api.Errno {
	t.Helper()
	spot, e := code.Object(o)
	wantSpot, want := slowObject(o)
	if spot != wantSpot || e != want {
		t.Fatalf("%+v: %v, %v, not %v, %v", o, spot, e, wantSpot, want)
	}
	return e
}

// holdStates tells whether Heights and Types say what is found slowly, or refuse an object as Object does.
func holdStates(t *testing.T, o api.Object, want api.Errno) {
	t.Helper()
	for n, p := range o.Procs {
		var states []slowState
		if want == ok {
			states = slowWorld{o.Consts, o.Needs, o.Procs, false}.slowStates(p)
		}
		if heights, e := code.Heights(o, n); e != want || !slices.Equal(heights, slowHeights(states)) {
			t.Fatalf("Heights of %d of %+v: %v, %v", n, o, heights, e)
		}
		for at := range p.Code {
			vars, stack, e := code.Types(o, n, at)
			if e != want || e != ok && len(vars)+len(stack) > 0 {
				t.Fatalf("Types of %d, %d of %+v: %v, %v, %v", n, at, o, vars, stack, e)
			}
			if e == ok && (letters(vars) != states[at].vars || letters(stack) != states[at].stack) {
				t.Fatalf("Types of %d, %d of %+v: %v, %v", n, at, o, vars, stack)
			}
		}
	}
}

// K4, K5: of objects by chance, right and wrong ones.
func TestObjectsByChance(t *testing.T) {
	r := newMaker(18, 1)
	met := map[api.Errno]int{}
	for range 12000 {
		o := r.object()
		for range r.IntN(4) {
			n := r.IntN(len(o.Procs))
			if len(o.Procs[n].Code) > 0 {
				r.turn(&o.Procs[n])
			}
		}
		e := holdObject(t, o)
		met[e]++
		if met[e] < 1500 {
			holdStates(t, o, e)
		}
	}
	t.Log(met)
	for _, e := range list(ok, badProc, badOp, badJump, badEnd, badHigh, badKind) {
		if met[e] < 100 {
			t.Errorf("%v: met %d times", e, met[e])
		}
	}
}

// K4: of programs by chance.
func TestProgramsByChance(t *testing.T) {
	r := newMaker(18, 2)
	met := map[api.Errno]int{}
	for range 6000 {
		p := r.program()
		for range r.IntN(3) {
			n := r.IntN(len(p.Procs))
			if len(p.Procs[n].Code) > 0 {
				r.turn(&p.Procs[n])
			}
		}
		if len(p.Points) > 0 && r.one(8) {
			x := &p.Points[r.IntN(len(p.Points))]
			*x = pick(r, list(p.Points[0], api.Point{Path: "b", Name: x.Name, Proc: x.Proc}, api.Point{Path: "a", Name: x.Name, Proc: x.Proc + 1}, api.Point{Name: x.Name, Proc: x.Proc}))
		}
		spot, e := code.Program(p)
		wantSpot, want := slowProgram(p)
		if spot != wantSpot || e != want {
			t.Fatalf("%+v: %v, %v, not %v, %v", p, spot, e, wantSpot, want)
		}
		met[e]++
	}
	for _, e := range list(ok, badProc, badOp, badJump, badEnd, badHigh, badKind) {
		if met[e] < 50 {
			t.Errorf("%v: met %d times", e, met[e])
		}
	}
}

// wild are instructions of a few codes in any order, so that ways join in all manners.
func (r maker) wild(codes []api.Code) (l []api.Instr) {
	size := 2 + r.IntN(9)
	for range size {
		i := api.Instr{Code: pick(r, codes)}
		switch rowOf(i).n {
		case "c":
			i.N = r.IntN(3)
		case "v":
			i.N = r.IntN(2)
		case "p":
			i.N = r.IntN(size)
		}
		l = append(l, i)
	}
	return l
}

// K4, K5: of procedures in which ways join as they will.
func TestWildJoins(t *testing.T) {
	r := newMaker(18, 3)
	codes := list(api.CodeConst, api.CodeConst, api.CodeLoad, api.CodeStore, api.CodeDrop, api.CodeJump, api.CodeUnless, api.CodeUnless, api.CodeEq, api.CodeNot, api.CodeReturn)
	met := map[api.Errno]int{}
	for range 60000 {
		o := api.Object{Path: "a", Consts: list(truthOf(true), intOf(1), truthOf(false)), Procs: list(api.Proc{Name: "f", Params: list(truth), Locals: 2, Code: r.wild(codes)})}
		e := holdObject(t, o)
		if met[e]++; met[e] < 1500 {
			holdStates(t, o, e)
		}
	}
	if met[ok] < 1500 || met[badHigh] < 1500 || met[badKind] < 1500 || met[badEnd] < 1500 {
		t.Error(met)
	}
}

// K6: what is written is read back, as bytes and as lines; of bytes by chance: what is read is written as just these.
func TestThereAndBack(t *testing.T) {
	r := newMaker(18, 4)
	for range 4000 {
		var l []api.Instr
		for range r.IntN(40) {
			i := api.Instr{Code: api.Code(1 + r.IntN(26))}
			if rowOf(i).n != "" {
				i.N = r.IntN(1<<31) >> r.IntN(31)
			}
			l = append(l, i)
		}
		holdForms(t, l)
		b, _ := slowBytes(l)
		for range r.IntN(3) {
			b[r.IntN(len(b))] = byte(r.IntN(256) >> r.IntN(8))
		}
		holdRead(t, b)
		holdRead(t, b[:r.IntN(len(b)+1)])
	}
}

// holdForms tells whether instructions have the forms that are found slowly, which are read back.
func holdForms(t *testing.T, l []api.Instr) {
	t.Helper()
	b, e := code.Bytes(l...)
	lines, f := code.Lines(l...)
	wantBytes, good := slowBytes(l)
	wantLines, _ := slowLines(l)
	if !good {
		if e != badOp || f != badOp || b != nil || lines != nil {
			t.Fatalf("%v: %x, %v; %q, %v", l, b, e, lines, f)
		}
		return
	}
	if e != ok || f != ok || string(b) != string(wantBytes) || !slices.Equal(lines, wantLines) {
		t.Fatalf("%v: %x, %v; %q, %v", l, b, e, lines, f)
	}
	if back, f := code.Parse(lines...); f != (api.Fault{}) || !slices.Equal(back, l) {
		t.Fatalf("%q: %v, %v", lines, back, f)
	}
	if len(l) <= api.MaxCode {
		if back, f := code.Read(b); f != (api.Fault{}) || !slices.Equal(back, l) {
			t.Fatalf("%x: %v, %v", b, back, f)
		}
	}
}

// holdRead tells whether Read says of bytes what is found slowly, and what it takes has just these bytes.
func holdRead(t *testing.T, b []byte) {
	t.Helper()
	l, f := code.Read(b)
	want, wantFault := slowRead(b)
	if f != wantFault || !slices.Equal(l, want) {
		t.Fatalf("Read of %x: %v, %v, not %v, %v", b, l, f, want, wantFault)
	}
	if f == (api.Fault{}) {
		if back, e := code.Bytes(l...); e != ok || string(back) != string(b) {
			t.Fatalf("Read of %x: %v, whose bytes are %x", b, l, back)
		}
	}
}

// walker goes one way through a procedure; of each value it has the type, of a variable that is unset TypeNone.
type walker struct {
	o           api.Object
	p           api.Proc
	vars, stack []api.Type
	at          int
}

func (w *walker) pop(t *testing.T) api.Type {
	if len(w.stack) == 0 {
		t.Fatalf("stuck at %d of %+v: nothing on the stack", w.at, w.p)
	}
	top := w.stack[len(w.stack)-1]
	w.stack = w.stack[:len(w.stack)-1]
	return top
}

func (w *walker) want(t *testing.T, types ...api.Type) {
	for _, want := range slices.Backward(types) {
		if got := w.pop(t); got != want {
			t.Fatalf("stuck at %d of %+v: %v, not %v", w.at, w.p, got, want)
		}
	}
}

func (w *walker) call(t *testing.T, params []api.Type, result api.Type) {
	w.want(t, params...)
	if result != none {
		w.stack = append(w.stack, result)
	}
}

// two takes two values of one type, of these.
func (w *walker) two(t *testing.T, of ...api.Type) {
	top := w.pop(t)
	if !slices.Contains(of, top) {
		t.Fatalf("stuck at %d of %+v: %v", w.at, w.p, top)
	}
	w.want(t, top)
	w.stack = append(w.stack, truth)
}

// step does an instruction; it answers false at an end.
func (w *walker) step(t *testing.T, jumps bool) bool {
	i := w.p.Code[w.at]
	next := w.at + 1
	switch i.Code {
	case api.CodeConst:
		w.stack = append(w.stack, w.o.Consts[i.N].Type)
	case api.CodeLoad:
		if w.vars[i.N] == none {
			t.Fatalf("stuck at %d of %+v: an unset variable", w.at, w.p)
		}
		w.stack = append(w.stack, w.vars[i.N])
	case api.CodeStore:
		w.vars[i.N] = w.pop(t)
	case api.CodeDrop, api.CodePrint:
		w.pop(t)
	case api.CodeJump:
		next = i.N
	case api.CodeUnless:
		if w.want(t, truth); jumps {
			next = i.N
		}
	case api.CodeCall:
		w.call(t, w.o.Procs[i.N].Params, w.o.Procs[i.N].Result)
	case api.CodeOuter:
		w.call(t, w.o.Needs[i.N].Params, w.o.Needs[i.N].Result)
	case api.CodeReturn, api.CodeGive:
		if (i.Code == api.CodeGive) != (w.p.Result != none) {
			t.Fatalf("stuck at %d of %+v: another end", w.at, w.p)
		}
		if w.p.Result != none {
			w.want(t, w.p.Result)
		}
		return false
	case api.CodeEq, api.CodeNe:
		w.two(t, number, truth, text)
	case api.CodeLt, api.CodeLe, api.CodeGt, api.CodeGe:
		w.two(t, number, text)
	case api.CodeJoin:
		w.call(t, list(text, text), text)
	case api.CodeNeg:
		w.call(t, list(number), number)
	case api.CodeNot:
		w.call(t, list(truth), truth)
	case api.CodeLen:
		w.call(t, list(text), number)
	default:
		w.call(t, list(number, number), number)
	}
	w.at = next
	return true
}

// asTold tells whether rows are as they are told to be: where TypeNone is told, anything may be.
func asTold(got, told []api.Type) bool {
	return slices.EqualFunc(got, told, func(a, b api.Type) bool { return a == b || b == none })
}

// K7: whichever way is gone through a procedure that was taken, the stack is as high, and what is on it and in the variables of such types, as Heights and Types tell; and nothing is stuck.
func TestEachWayIsAsTold(t *testing.T) {
	r := newMaker(18, 5)
	taken, loops, spots := 0, 0, 0
	for range 4000 {
		o := r.object()
		if _, e := code.Object(o); e != ok {
			continue
		}
		taken++
		for n, p := range o.Procs {
			heights, _ := code.Heights(o, n)
			told := map[int][2][]api.Type{}
			for range 12 {
				w := walker{o: o, p: p, vars: make([]api.Type, p.Locals)}
				copy(w.vars, p.Params)
				for steps := range 200 {
					if w.at >= len(p.Code) || len(w.stack) > api.MaxStack {
						t.Fatalf("%+v: stuck at %d with %d values", p, w.at, len(w.stack))
					}
					if _, there := told[w.at]; !there {
						vars, stack, _ := code.Types(o, n, w.at)
						told[w.at] = [2][]api.Type{vars, stack}
						spots++
					}
					if x := told[w.at]; heights[w.at] != len(w.stack) || !asTold(w.vars, x[0]) || !asTold(w.stack, x[1]) {
						t.Fatalf("%+v: at %d %v, %v, not %v", p, w.at, w.vars, w.stack, x)
					}
					if !w.step(t, r.one(2)) {
						break
					}
					if steps == 199 {
						loops++
					}
				}
			}
		}
	}
	if taken < 2000 || loops < 100 || spots < 20000 {
		t.Error(taken, loops, spots)
	}
}
