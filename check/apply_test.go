package check_test

import (
	"math"
	"slices"
	"strings"
	"testing"

	"treadle/api"
	"treadle/check"
)

// applies asks what an operator makes of values; nothing stands beside an error.
func applies(t *testing.T, op api.Op, l []api.Value, want api.Value, why api.Errno) {
	t.Helper()
	if v, e := check.Apply(op, l...); v != want || e != why {
		t.Errorf("Apply(%v, %.200v): %.200v, %v, not %.200v, %v", op, l, v, e, want, why)
	}
	if v, e := slowApply(op, l...); v != want || e != why {
		t.Errorf("slow Apply(%v, %.200v): %.200v, %v, not %.200v, %v", op, l, v, e, want, why)
	}
}

func list(l ...api.Value) []api.Value { return l }

func n(x int64) api.Value { return numberOf(x) }

// P17.3: the chapter's examples.
func TestApplyExamples(t *testing.T) {
	applies(t, api.OpDiv, list(n(math.MinInt64), n(-1)), n(math.MinInt64), api.OK)
	applies(t, api.OpRem, list(n(-7), n(2)), n(-1), api.OK)
	applies(t, api.OpDiv, list(n(1), n(0)), api.Value{}, api.ErrConst)
	applies(t, api.OpLt, list(truthOf(true), truthOf(false)), api.Value{}, api.ErrType)
	applies(t, api.OpNot, nil, api.Value{}, api.ErrArg)
}

// P17.3: numbers of all sizes, 2^64 taken off and division by 0 and -1.
func TestApplyNumbers(t *testing.T) {
	const least, most = math.MinInt64, math.MaxInt64
	for _, c := range []struct {
		op         api.Op
		a, b, want int64
	}{
		{api.OpAdd, most, 1, least}, {api.OpAdd, least, -1, most}, {api.OpAdd, most, most, -2}, {api.OpAdd, least, least, 0}, {api.OpAdd, 2, -3, -1},
		{api.OpSub, least, 1, most}, {api.OpSub, 0, least, least}, {api.OpSub, most, -1, least}, {api.OpSub, 2, 3, -1},
		{api.OpMul, most, 2, -2}, {api.OpMul, least, -1, least}, {api.OpMul, most, most, 1}, {api.OpMul, 1 << 32, 1 << 32, 0}, {api.OpMul, -3, 4, -12},
		{api.OpDiv, 7, 2, 3}, {api.OpDiv, -7, 2, -3}, {api.OpDiv, 7, -2, -3}, {api.OpDiv, -7, -2, 3}, {api.OpDiv, least, -1, least}, {api.OpDiv, most, -1, -most}, {api.OpDiv, 0, -5, 0}, {api.OpDiv, least, 2, least / 2}, {api.OpDiv, 1, least, 0},
		{api.OpRem, 7, 2, 1}, {api.OpRem, -7, 2, -1}, {api.OpRem, 7, -2, 1}, {api.OpRem, -7, -2, -1}, {api.OpRem, least, -1, 0}, {api.OpRem, most, -1, 0}, {api.OpRem, least, most, -1}, {api.OpRem, 3, least, 3},
	} {
		applies(t, c.op, list(n(c.a), n(c.b)), n(c.want), api.OK)
	}
	for _, x := range []int64{0, 1, -1, least, most} {
		applies(t, api.OpDiv, list(n(x), n(0)), api.Value{}, api.ErrConst)
		applies(t, api.OpRem, list(n(x), n(0)), api.Value{}, api.ErrConst)
		applies(t, api.OpNeg, list(n(x)), n(-x), api.OK)
	}
	applies(t, api.OpNeg, list(n(least)), n(least), api.OK)
}

// P17.3: texts, their length, and one byte too many.
func TestApplyTexts(t *testing.T) {
	long := strings.Repeat("\xff", 4096)
	for i := range 4097 {
		if i%100 == 0 || i > 4090 {
			applies(t, api.OpJoin, list(textOf(long[:i]), textOf(long[i:])), textOf(long), api.OK)
			applies(t, api.OpLen, list(textOf(long[:i])), n(int64(i)), api.OK)
			applies(t, api.OpJoin, list(textOf(long[:i]), textOf("x"+long[i:])), api.Value{}, cond(i == 0, api.ErrArg, api.ErrConst))
		}
	}
	applies(t, api.OpJoin, list(textOf(long), textOf(long)), api.Value{}, api.ErrConst)
	applies(t, api.OpJoin, list(textOf("a\x00"), textOf("b")), textOf("a\x00b"), api.OK)
	applies(t, api.OpLen, list(textOf("ä")), n(2), api.OK)
	applies(t, api.OpLen, list(textOf(long+"x")), api.Value{}, api.ErrArg)
	for _, c := range []struct {
		a, b string
		less bool
	}{{"", "a", true}, {"a", "", false}, {"a", "a\x00", true}, {"B", "a", true}, {"\x7f", "\x80", true}, {"\xff", "a", false}, {"ab", "b", true}, {"a", "a", false}, {"z", "ä", true}, {long, long[1:], false}} {
		applies(t, api.OpLt, list(textOf(c.a), textOf(c.b)), truthOf(c.less), api.OK)
		applies(t, api.OpGe, list(textOf(c.a), textOf(c.b)), truthOf(!c.less), api.OK)
		applies(t, api.OpGt, list(textOf(c.b), textOf(c.a)), truthOf(c.less), api.OK)
		applies(t, api.OpLe, list(textOf(c.b), textOf(c.a)), truthOf(!c.less), api.OK)
	}
}

func cond[T any](is bool, a, b T) T {
	if is {
		return a
	}
	return b
}

// P17.3: truths, and what is the same.
func TestApplyTruths(t *testing.T) {
	yes, no := truthOf(true), truthOf(false)
	for _, c := range []struct {
		op             api.Op
		nn, ny, yn, yy bool
	}{{api.OpOr, false, true, true, true}, {api.OpAnd, false, false, false, true}, {api.OpEq, true, false, false, true}, {api.OpNe, false, true, true, false}} {
		applies(t, c.op, list(no, no), truthOf(c.nn), api.OK)
		applies(t, c.op, list(no, yes), truthOf(c.ny), api.OK)
		applies(t, c.op, list(yes, no), truthOf(c.yn), api.OK)
		applies(t, c.op, list(yes, yes), truthOf(c.yy), api.OK)
	}
	applies(t, api.OpNot, list(yes), no, api.OK)
	applies(t, api.OpNot, list(no), yes, api.OK)
	for _, v := range list(n(0), n(-1), n(math.MinInt64), textOf(""), textOf("x"), textOf("\x00")) {
		for _, w := range list(n(0), n(-1), n(math.MinInt64), textOf(""), textOf("x"), textOf("\x00")) {
			if v.Type == w.Type {
				applies(t, api.OpEq, list(v, w), truthOf(v == w), api.OK)
				applies(t, api.OpNe, list(v, w), truthOf(v != w), api.OK)
			}
		}
	}
}

// sampleValues are right ones, and such that aren't.
func sampleValues() (right, wrong []api.Value) {
	right = list(n(0), n(1), n(-1), n(3), n(math.MaxInt64), n(math.MinInt64), truthOf(true), truthOf(false), textOf(""), textOf("a"), textOf("b\x00"), textOf(strings.Repeat("x", 4096)))
	wrong = list(api.Value{}, api.Value{Type: 4}, api.Value{Type: -1}, api.Value{Type: math.MaxInt}, api.Value{Type: math.MinInt, Int: 1}, api.Value{Int: 1}, api.Value{Bool: true}, api.Value{Text: "x"},
		api.Value{Type: api.TypeInt, Bool: true}, api.Value{Type: api.TypeInt, Int: 1, Text: "x"}, api.Value{Type: api.TypeBool, Int: 1}, api.Value{Type: api.TypeBool, Bool: true, Text: "x"},
		api.Value{Type: api.TypeText, Int: -1}, api.Value{Type: api.TypeText, Text: "x", Bool: true}, textOf(strings.Repeat("x", 4097)), api.Value{Type: 4, Text: "x"})
	return right, wrong
}

// P17.3: every operator, and what is none, with every number of values, right and wrong ones.
func TestApplyAll(t *testing.T) {
	right, wrong := sampleValues()
	all := slices.Concat(right, wrong)
	ops := []api.Op{math.MinInt, -1, api.OpNone, api.OpLen + 1, api.OpLen + 2, 100, math.MaxInt}
	for op := api.OpOr; op <= api.OpLen; op++ {
		ops = append(ops, op)
	}
	counts := map[api.Errno]int{}
	ask := func(op api.Op, l ...api.Value) {
		v, e := slowApply(op, l...)
		applies(t, op, l, v, e)
		counts[e]++
	}
	for _, op := range ops {
		ask(op)
		for _, a := range all {
			ask(op, a)
			for _, b := range all {
				ask(op, a, b)
			}
			ask(op, a, right[1], right[1])
			ask(op, right[6], right[6], a)
			ask(op, slices.Repeat(list(a), 1000)...)
		}
	}
	for _, e := range []api.Errno{api.OK, api.ErrArg, api.ErrType, api.ErrConst} {
		if counts[e] < 10 {
			t.Error("too few:", counts)
		}
	}
}

// P17.3: which of several faults is told.
func TestApplyOrder(t *testing.T) {
	applies(t, api.OpDiv, list(truthOf(true), n(0)), api.Value{}, api.ErrType)
	applies(t, api.OpDiv, list(api.Value{}, n(0)), api.Value{}, api.ErrArg)
	applies(t, api.OpAdd, list(n(1), truthOf(true), n(1)), api.Value{}, api.ErrArg)
	applies(t, api.OpAdd, list(truthOf(true), api.Value{Type: 4}), api.Value{}, api.ErrArg)
	applies(t, api.OpNeg, list(n(1), n(1)), api.Value{}, api.ErrArg)
	applies(t, api.OpSub, list(n(1)), api.Value{}, api.ErrArg)
	applies(t, api.OpJoin, list(textOf(strings.Repeat("x", 4096)), n(1)), api.Value{}, api.ErrType)
	applies(t, api.OpJoin, list(textOf(strings.Repeat("x", 4096)), textOf(strings.Repeat("x", 4097))), api.Value{}, api.ErrArg)
}

// P17.3: numbers by chance.
func TestApplyRandomNumbers(t *testing.T) {
	r := newMaker(3, 0)
	some := func() int64 { return one(r, int64(r.Uint64()), r.Int64N(20)-10, int64(r.Uint64())>>r.IntN(64)) }
	for range 20000 {
		a, b := n(some()), n(some())
		for op := api.OpOr; op <= api.OpLen; op++ {
			l := list(a, b)[:cond(op >= api.OpNeg, 1, 2)]
			v, e := check.Apply(op, l...)
			if w, x := slowApply(op, l...); v != w || e != x {
				t.Fatalf("Apply(%v, %v): %v, %v, not %v, %v", op, l, v, e, w, x)
			}
			if (op == api.OpDiv || op == api.OpRem) && b.Int != 0 {
				quot, _ := check.Apply(api.OpDiv, a, b)
				rest, _ := check.Apply(api.OpRem, a, b)
				if quot.Int*b.Int+rest.Int != a.Int {
					t.Fatal(a, b, quot, rest)
				}
			}
		}
	}
}
