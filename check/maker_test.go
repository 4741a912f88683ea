package check_test

import (
	"math"
	"math/rand/v2"
	"reflect"
	"slices"
	"strings"

	"treadle/api"
)

// maker makes modules that hold together, by chance, but for one choice of so many that is made wrongly (0: none is).
type maker struct {
	*rand.Rand
	slip int
}

func newMaker(seed uint64, slip int) maker { return maker{rand.New(rand.NewPCG(17, seed)), slip} }

func (r maker) even() bool { return r.IntN(2) == 0 }

func (r maker) slips() bool { return r.slip > 0 && r.IntN(r.slip) == 0 }

func one[T any](r maker, l ...T) T { return l[r.IntN(len(l))] }

// thing is what a name means: a value of a type, or a function.
type thing struct {
	of   string
	sig  api.Sig // of a value the Result is its type
	call bool
}

func (x thing) name() string { return x.sig.Name }

// things are what is known at a place.
type things []thing

func (l things) with(x thing) things { return append(slices.Clip(l), x) }

// value is likewise with a value.
func (l things) value(name string, t api.Type) things {
	return l.with(thing{sig: api.Sig{Name: name, Result: t}})
}

// anyType is a type of a value.
func (r maker) anyType() api.Type { return one(r, api.TypeInt, api.TypeBool, api.TypeText) }

var words = []string{"a", "b", "c", "d", "e", "f", "g", "_", "A9", "true_", strings.Repeat("w", 32)}

// newName is one that nothing has which is told.
func (r maker) newName(taken ...string) string {
	for range 100 {
		if name := one(r, words...); r.slips() || !slices.Contains(taken, name) {
			return name
		}
	}
	return "z"
}

func (r maker) valueOf(t api.Type) api.Value {
	switch t {
	case api.TypeInt:
		return numberOf(one(r, 0, 1, 2, 7, math.MaxInt64, int64(r.Uint64()>>1)))
	case api.TypeBool:
		return truthOf(r.even())
	}
	return textOf(one(r, "", "x", "xy", "\x00\xff", "long text"))
}

func (r maker) sig(name string) api.Sig {
	f := api.Sig{Name: name, Result: api.Type(r.IntN(4))}
	for range r.IntN(3) {
		f.Params = append(f.Params, r.anyType())
	}
	return f
}

// face is one that is right, but for slips.
func (r maker) face() (f api.Face) {
	names := slices.Clone(words)
	r.Shuffle(len(names), func(i, j int) { names[i], names[j] = names[j], names[i] })
	consts, funcs := names[:r.IntN(4)], names[4:4+r.IntN(4)]
	slices.Sort(consts)
	slices.Sort(funcs)
	for _, name := range consts {
		v := r.valueOf(r.anyType())
		if v.Type == api.TypeInt && r.even() {
			v.Int = -v.Int
		}
		f.Consts = append(f.Consts, api.Bind{Name: name, Value: v})
	}
	for _, name := range funcs {
		f.Funcs = append(f.Funcs, r.sig(name))
	}
	return f
}

// module is a module with its imports, all places in it unlike and in no order.
func (r maker) module() (m api.Module, in []api.Import) {
	var known things
	var names []string
	for range r.IntN(3) {
		x := api.Import{Name: r.newName(names...), Path: one(r, "a.m", "b.m", ""), Face: r.face()}
		in, names = append(in, x), append(names, x.Name)
		m.Includes = append(m.Includes, api.Include{Name: x.Name, Path: "p"})
		for _, c := range x.Face.Consts {
			known = known.with(thing{of: x.Name, sig: api.Sig{Name: c.Name, Result: c.Value.Type}})
		}
		for _, f := range x.Face.Funcs {
			known = known.with(thing{of: x.Name, sig: f, call: true})
		}
	}
	names = nil
	var sigs []api.Sig
	for range r.IntN(4) {
		sigs = append(sigs, r.sig(r.newName(names...)))
		names = append(names, sigs[len(sigs)-1].Name)
	}
	for range r.IntN(4) {
		name, t := r.newName(names...), r.anyType()
		m.Consts = append(m.Consts, api.Const{Name: name, Export: r.even(), Expr: r.expr(known, t, r.IntN(4), true)})
		known, names = known.value(name, t), append(names, name)
	}
	for _, sig := range sigs {
		known = known.with(thing{sig: sig, call: true})
	}
	for _, sig := range sigs {
		m.Funcs = append(m.Funcs, r.function(known, sig))
	}
	r.scatter(&m)
	return m, in
}

func (r maker) function(known things, sig api.Sig) api.Func {
	f := api.Func{Name: sig.Name, Export: r.even(), Result: sig.Result}
	if r.slips() {
		f.Result = api.Type(r.IntN(4))
	}
	var vars []string
	for _, t := range sig.Params {
		name := r.newName(vars...)
		f.Params = append(f.Params, api.Param{Name: name, Type: t})
		known, vars = known.hiding(name, t), append(vars, name)
	}
	f.Body = r.block(known, vars, f.Result, f.Result != api.TypeNone, 3)
	return f
}

// hiding is likewise with a variable, which hides the values that have its name.
func (l things) hiding(name string, t api.Type) things {
	l = slices.DeleteFunc(slices.Clone(l), func(x thing) bool { return x.of == "" && !x.call && x.name() == name })
	return l.value(name, t)
}

// block is one that returns, if it must; vars are the names of the variables that are known.
func (r maker) block(known things, vars []string, result api.Type, must bool, room int) []api.Stmt {
	l := []api.Stmt{}
	for range r.IntN(4) {
		s := r.stmt(known, vars, result, room)
		if s.Kind == api.StmtVar {
			t := r.anyType()
			s.Name, s.Expr = r.newName(vars...), r.expr(known, t, r.IntN(3), false)
			known, vars = known.hiding(s.Name, t), append(slices.Clip(vars), s.Name)
		}
		l = append(l, s)
	}
	switch {
	case !must || r.slips():
	case room > 0 && r.even():
		l = append(l, api.Stmt{Kind: api.StmtIf, Expr: r.expr(known, api.TypeBool, 1, false), HasElse: true,
			Body: r.block(known, vars, result, true, room-1), Else: r.block(known, vars, result, true, room-1)})
	default:
		l = append(l, r.leave(known, result))
	}
	if r.IntN(5) == 0 {
		l = append(l, api.Stmt{Kind: api.StmtPrint, Expr: r.expr(known, r.anyType(), 1, false)})
	}
	return l
}

func (r maker) leave(known things, result api.Type) api.Stmt {
	s := api.Stmt{Kind: api.StmtReturn}
	if (result != api.TypeNone) != r.slips() {
		s.Expr = r.expr(known, max(result, api.TypeInt), 2, false)
	}
	return s
}

// stmt is a statement; what a `var` declares is left to the block.
func (r maker) stmt(known things, vars []string, result api.Type, room int) api.Stmt {
	kind := api.StmtKind(1 + r.IntN(7))
	if kind == api.StmtSet && len(vars) == 0 && !r.slips() || room <= 0 && (kind == api.StmtIf || kind == api.StmtWhile) {
		kind = api.StmtPrint
	}
	s := api.Stmt{Kind: kind}
	switch kind {
	case api.StmtSet:
		s.Name = one(r, append(slices.Clip(vars), r.newName(vars...))...)
		if len(vars) > 0 && !r.slips() {
			s.Name = one(r, vars...)
		}
		s.Expr = r.expr(known, known.typeOf(s.Name), 2, false)
	case api.StmtIf, api.StmtWhile:
		s.Expr, s.Body = r.expr(known, api.TypeBool, 2, false), r.block(known, vars, result, false, room-1)
		if s.HasElse = kind == api.StmtIf && r.even(); s.HasElse {
			s.Else = r.block(known, vars, result, false, room-1)
		}
	case api.StmtReturn:
		return r.leave(known, result)
	case api.StmtPrint:
		s.Expr = r.expr(known, r.anyType(), 2, false)
	case api.StmtDo:
		calls := known.calls(func(api.Type) bool { return true })
		if len(calls) == 0 {
			return api.Stmt{Kind: api.StmtPrint, Expr: r.expr(known, r.anyType(), 2, false)}
		}
		s.Expr = r.call(known, one(r, calls...), 1)
	}
	return s
}

// typeOf is the type of the value that a name alone means.
func (l things) typeOf(name string) api.Type {
	for _, x := range l {
		if x.of == "" && !x.call && x.name() == name {
			return x.sig.Result
		}
	}
	return api.TypeInt
}

func (l things) calls(may func(api.Type) bool) (all []thing) {
	for _, x := range l {
		if x.call && may(x.sig.Result) {
			all = append(all, x)
		}
	}
	return all
}

func (r maker) call(known things, x thing, room int) api.Expr {
	e := api.Expr{Kind: api.ExprCall, Of: x.of, Name: x.name()}
	for _, t := range x.sig.Params {
		e.Kids = append(e.Kids, r.expr(known, t, room-1, false))
	}
	switch {
	case r.slips():
		e.Kids = append(e.Kids, r.leaf(known, r.anyType()))
	case r.slips() && len(e.Kids) > 0:
		e.Kids = e.Kids[1:]
	case r.slips():
		e.Name = one(r, words...)
	case r.slips():
		e.Of = one(r, "", "a", "b")
	}
	return e
}

// expr is an expression of a type, a constant one without calls.
func (r maker) expr(known things, t api.Type, room int, constant bool) api.Expr {
	if r.slips() {
		t = r.anyType()
	}
	calls := known.calls(func(x api.Type) bool { return x == t })
	if r.slips() {
		constant, calls = false, known.calls(func(api.Type) bool { return true })
	}
	switch {
	case room <= 0 || r.IntN(6) == 0:
		return r.leaf(known, t)
	case !constant && len(calls) > 0 && r.IntN(3) == 0:
		return r.call(known, one(r, calls...), room)
	}
	var rows []api.Op
	for op := api.OpOr; op <= api.OpLen; op++ {
		if resultType(op) == t {
			rows = append(rows, op)
		}
	}
	op := one(r, rows...)
	e := api.Expr{Kind: api.ExprBinary, Op: op}
	if op >= api.OpNeg {
		e.Kind = api.ExprUnary
	}
	for _, c := range one(r, operandTypes[op]...) {
		e.Kids = append(e.Kids, r.expr(known, api.Type(strings.IndexRune("-ibt", c)), room-1, constant))
	}
	if (op == api.OpDiv || op == api.OpRem) && !r.slips() {
		e.Kids[1] = api.Expr{Kind: api.ExprLit, Value: numberOf(1 + r.Int64N(9))}
	}
	return e
}

func (r maker) leaf(known things, t api.Type) api.Expr {
	var l []thing
	for _, x := range known {
		if !x.call && x.sig.Result == t {
			l = append(l, x)
		}
	}
	switch {
	case r.slips():
		return api.Expr{Kind: api.ExprName, Of: one(r, "", "", "a", "b"), Name: one(r, words...)}
	case len(l) > 0 && r.IntN(3) > 0:
		x := one(r, l...)
		return api.Expr{Kind: api.ExprName, Of: x.of, Name: x.name()}
	}
	return api.Expr{Kind: api.ExprLit, Value: r.valueOf(t)}
}

// places are all of a tree, in the order of its fields.
func places(v reflect.Value) (all []reflect.Value) {
	switch v.Kind() {
	case reflect.Struct:
		for i := range v.NumField() {
			if v.Type().Field(i).Name == "At" {
				all = append(all, v.Field(i))
			} else {
				all = append(all, places(v.Field(i))...)
			}
		}
	case reflect.Slice:
		for i := range v.Len() {
			all = append(all, places(v.Index(i))...)
		}
	}
	return all
}

// scatter gives each thing of a tree a place of its own, in no order.
func (r maker) scatter(m *api.Module) {
	l := places(reflect.ValueOf(m).Elem())
	for i, n := range r.Perm(len(l)) {
		l[i].SetInt(int64(n*3 - len(l)))
	}
}

// copied is a tree that shares no list with another one.
func copied[T any](x T) T {
	v := reflect.New(reflect.TypeOf(x)).Elem()
	copyInto(v, reflect.ValueOf(x))
	return v.Interface().(T)
}

func copyInto(to, from reflect.Value) {
	switch from.Kind() {
	case reflect.Struct:
		for i := range from.NumField() {
			copyInto(to.Field(i), from.Field(i))
		}
	case reflect.Slice:
		if from.IsNil() {
			return
		}
		to.Set(reflect.MakeSlice(from.Type(), from.Len(), from.Len()))
		for i := range from.Len() {
			copyInto(to.Index(i), from.Index(i))
		}
	default:
		to.Set(from)
	}
}
