package code_test

import (
	"math/rand/v2"
	"slices"
	"strconv"
	"strings"

	"treadle/api"
)

func intOf(n int64) api.Value     { return api.Value{Type: number, Int: n} }
func truthOf(b bool) api.Value    { return api.Value{Type: truth, Bool: b} }
func textOf(s string) api.Value   { return api.Value{Type: text, Text: s} }
func list[T any](l ...T) []T      { return l }
func sized[T any](n int, x T) []T { return slices.Repeat([]T{x}, n) }

// maker makes objects and programs by chance.
type maker struct{ *rand.Rand }

func newMaker(seed ...uint64) maker {
	return maker{rand.New(rand.NewPCG(seed[0], seed[1]))}
}

func (r maker) one(in int) bool { return r.IntN(in) == 0 }

func pick[T any](r maker, l []T) T { return l[r.IntN(len(l))] }

func (r maker) types(most int) (l []api.Type) {
	for range r.IntN(most + 1) {
		l = append(l, api.Type(1+r.IntN(3)))
	}
	return l
}

func (r maker) result() api.Type { return api.Type(r.IntN(4)) }

func (r maker) values() []api.Value {
	l := list(intOf(int64(r.Uint64())), truthOf(r.one(2)), textOf(strings.Repeat("x", r.IntN(9))))
	for range r.IntN(3) {
		l = append(l, intOf(int64(r.IntN(9))))
	}
	r.Shuffle(len(l), func(i, j int) { l[i], l[j] = l[j], l[i] })
	return l
}

// heads are procedures without their instructions.
func (r maker) heads(most int) (l []api.Proc) {
	for n := range 1 + r.IntN(most) {
		p := api.Proc{Name: "f" + strconv.Itoa(n), Export: r.one(2), Params: r.types(3), Result: r.result()}
		p.Locals = len(p.Params) + r.IntN(4)
		l = append(l, p)
	}
	return l
}

func (r maker) needs() (l []api.Need) {
	for n := range r.IntN(3) {
		l = append(l, api.Need{Path: "b", Name: "g" + strconv.Itoa(n), Params: r.types(2), Result: r.result()})
	}
	return l
}

// object is one whose procedures are made so that they may well be right.
func (r maker) object() api.Object {
	o := api.Object{Path: "a/b.m", Consts: r.values(), Needs: r.needs(), Procs: r.heads(3)}
	w := slowWorld{o.Consts, o.Needs, o.Procs, false}
	for n := range o.Procs {
		o.Procs[n].Code = r.body(w, o.Procs[n])
	}
	return o
}

func (r maker) program() api.Program {
	p := api.Program{Consts: r.values(), Procs: r.heads(4)}
	w := slowWorld{p.Consts, nil, p.Procs, true}
	for n := range p.Procs {
		p.Procs[n].Code = r.body(w, p.Procs[n])
		if p.Procs[n].Export {
			p.Points = append(p.Points, api.Point{Path: "a", Name: p.Procs[n].Name, Proc: n})
		}
	}
	return p
}

// open is a jump whose place is not known yet, and the state behind it.
type open struct {
	at int
	s  slowState
}

// body is a procedure's instructions, made one behind the other: each one fits what lies on the stack then, and jumps lead where the stack is alike, mostly.
func (r maker) body(w slowWorld, p api.Proc) (l []api.Instr) {
	s := slowState{true, letters(p.Params) + strings.Repeat("@", p.Locals-len(p.Params)), "", false}
	var seen []slowState
	var jumps []open
	for range 1 + r.IntN(30) {
		jumps = slices.DeleteFunc(jumps, func(j open) bool {
			led := j.s.stack == s.stack && r.one(2)
			if led {
				l[j.at].N, s = len(l), slowJoin(s, j.s)
			}
			return led
		})
		i := r.fitting(w, p, s)
		seen = append(seen, s)
		if n := rowOf(i).n; n == "p" && r.one(2) {
			i.N = r.back(seen, w.slowBehind(p, i, s))
		} else if n == "p" {
			jumps = append(jumps, open{len(l), w.slowBehind(p, i, s)})
		}
		l = append(l, i)
		if next := w.slowBehind(p, i, s); !next.unlike {
			s = next
		}
		if len(slowNext(i, 0)) < 1 || i.Code == api.CodeJump {
			if len(jumps) == 0 {
				break
			}
			s = jumps[len(jumps)-1].s
			l[jumps[len(jumps)-1].at].N = len(l)
			jumps = jumps[:len(jumps)-1]
		}
	}
	return r.ended(w, p, l, jumps)
}

// back is a place at which the stack was as it is behind a jump; any place, if there is none.
func (r maker) back(seen []slowState, s slowState) int {
	from := r.IntN(len(seen))
	for n := range seen {
		if at := (from + n) % len(seen); seen[at].stack == s.stack {
			return at
		}
	}
	return from
}

// ended lets all that is open come to an end.
func (r maker) ended(w slowWorld, p api.Proc, l []api.Instr, jumps []open) []api.Instr {
	for _, j := range jumps {
		l[j.at].N = len(l)
		l = append(l, r.ending(w, p)...)
	}
	if len(l) == 0 || slices.Contains(slowNext(l[len(l)-1], len(l)-1), len(l)) {
		l = append(l, r.ending(w, p)...)
	}
	return l
}

func (r maker) ending(w slowWorld, p api.Proc) []api.Instr {
	if p.Result == none {
		return list(api.Instr{Code: api.CodeReturn})
	}
	n := slices.IndexFunc(w.consts, func(v api.Value) bool { return v.Type == p.Result })
	return list(api.Instr{Code: api.CodeConst, N: n}, api.Instr{Code: api.CodeGive})
}

// fitting is an instruction that fits a state, if one is found soon.
func (r maker) fitting(w slowWorld, p api.Proc, s slowState) api.Instr {
	bounds := map[string]int{"c": len(w.consts), "v": p.Locals, "f": len(w.procs), "o": len(w.needs), "p": 1, "": 1}
	for {
		c := 1 + r.IntN(26)
		if r.one(2) {
			c = pick(r, list(1, 1, 1, 2, 3, 6))
		}
		i := api.Instr{Code: api.Code(c)}
		bound := bounds[rowOf(i).n]
		if bound == 0 {
			continue
		}
		i.N = r.IntN(bound)
		q := p
		// An end that is none may be mended by what follows.
		q.Code = list(i, i, i)
		if e := w.slowAt(q, 0, s); e == ok && (c != 9 || r.one(4)) || r.one(600) {
			return i
		}
	}
}

// turn changes something of a procedure, by chance.
func (r maker) turn(p *api.Proc) {
	at := r.IntN(len(p.Code))
	switch r.IntN(12) {
	case 0:
		p.Code[at].N = r.IntN(len(p.Code) + 1)
	case 1:
		p.Code[at].N += r.IntN(3) - 1
	case 2:
		p.Code[at] = api.Instr{Code: api.Code(r.IntN(28))}
	case 3:
		p.Code = slices.Delete(p.Code, at, at+1)
	case 4:
		p.Code = slices.Insert(p.Code, at, api.Instr{Code: api.Code(1 + r.IntN(26))})
	case 5:
		p.Result = r.result()
	case 6:
		p.Locals += r.IntN(3) - 1
	case 7:
		p.Params = append(p.Params, api.Type(1+r.IntN(3)))
		p.Locals++
	case 8:
		p.Code[at].Code = pick(r, list(api.CodeLoad, api.CodeStore, api.CodeUnless, api.CodeJump, api.CodeCall))
		p.Code[at].N = r.IntN(4)
	case 9:
		p.Name = pick(r, list("f0", "f1", "if", "", "g"))
	case 10:
		p.Code = p.Code[:at]
	case 11:
		*p = r.odd(*p)
	}
}

// odd is a procedure with a head that may not be.
func (r maker) odd(p api.Proc) api.Proc {
	wrong := pick(r, list[api.Type](-9, 4, 9))
	if r.one(2) || len(p.Params) == 0 {
		p.Result = wrong
	} else {
		p.Params = slices.Clone(p.Params)
		p.Params[r.IntN(len(p.Params))] = pick(r, list(none, wrong))
	}
	return p
}
