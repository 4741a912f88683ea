package wire_test

import (
	"math"
	"slices"
	"strings"
	"testing"

	"treadle/api"
	"treadle/wire"
)

// call is one call that reads: what it answers, as something that can be compared.
type call struct {
	name string
	read func(r *wire.Reader) any
	zero any
}

func texts(l []string) string {
	s := ""
	for _, x := range l {
		s += string(wire.PutText(nil, x))
	}
	return s
}

func byteCall() call {
	return call{"Byte", func(r *wire.Reader) any { return r.Byte() }, byte(0)}
}

func uintCall() call {
	return call{"Uint", func(r *wire.Reader) any { return r.Uint() }, uint64(0)}
}

func intCall() call {
	return call{"Int", func(r *wire.Reader) any { return r.Int() }, int64(0)}
}

func boolCall() call {
	return call{"Bool", func(r *wire.Reader) any { return r.Bool() }, false}
}

func countCall(most int) call {
	return call{"Count", func(r *wire.Reader) any { return r.Count(most) }, 0}
}

func textCall(most int) call {
	return call{"Text", func(r *wire.Reader) any { return r.Text(most) }, ""}
}

func listCall(most, each int) call {
	return call{"List", func(r *wire.Reader) any { return texts(r.List(most, each)) }, ""}
}

func rawCall(n int) call {
	return call{"Raw", func(r *wire.Reader) any { return string(r.Raw(n)) }, ""}
}

// allCalls are all that read, with bounds wide, narrow and below 0.
func allCalls() []call {
	l := []call{byteCall(), uintCall(), intCall(), boolCall()}
	for _, n := range []int{math.MaxInt, 3, 1, 0, -1, math.MinInt} {
		l = append(l, countCall(n), textCall(n), rawCall(n), listCall(n, n), listCall(9, n), listCall(n, 9))
	}
	return l
}

// P1.2: what stands there is read, and the reader stands behind it.
func TestReads(t *testing.T) {
	nines := strings.Repeat("\xff", 9)
	for _, c := range []struct {
		b    string
		call call
		want any
		at   int
	}{
		{"\x00", byteCall(), byte(0), 1},
		{"\xffab", byteCall(), byte(255), 1},
		{"\x00\x00", uintCall(), uint64(0), 1},
		{"\x7f", uintCall(), uint64(127), 1},
		{"\xac\x02z", uintCall(), uint64(300), 2},
		{nines[1:] + "\x7f", uintCall(), uint64(1<<63 - 1), 9},
		{strings.Repeat("\x80", 9) + "\x01", uintCall(), uint64(1 << 63), 10},
		{nines + "\x01\x01", uintCall(), uint64(math.MaxUint64), 10},
		{"\x00", intCall(), int64(0), 1},
		{"\x01", intCall(), int64(-1), 1},
		{"\x02", intCall(), int64(1), 1},
		{"\xad\x02", intCall(), int64(-151), 2},
		{nines + "\x01", intCall(), int64(math.MinInt64), 10},
		{"\xfe" + nines[1:] + "\x01", intCall(), int64(math.MaxInt64), 10},
		{"\x00", countCall(0), 0, 1},
		{"\x03ab", countCall(3), 3, 1},
		{"\xac\x02", countCall(300), 300, 2},
		{nines[1:] + "\x7f", countCall(math.MaxInt), math.MaxInt, 9},
		{"\x00\x01", boolCall(), false, 1},
		{"\x01\x00", boolCall(), true, 1},
		{"\x00", textCall(0), "", 1},
		{"\x02hi", textCall(2), "hi", 3},
		{"\x02hi!", textCall(math.MaxInt), "hi", 3},
		{"\x03\x00\xff\x80", textCall(3), "\x00\xff\x80", 4},
		{"\x00", listCall(0, 0), "", 1},
		{"\x02\x00\x00\x09", listCall(2, 0), "\x00\x00", 3},
		{"\x02\x01a\x02bc", listCall(2, 2), "\x01a\x02bc", 6},
		{"\x02\x01a\x02bcd", listCall(math.MaxInt, math.MaxInt), "\x01a\x02bc", 6},
		{"", rawCall(0), "", 0},
		{"ab", rawCall(0), "", 0},
		{"abc", rawCall(2), "ab", 2},
		{"abc", rawCall(3), "abc", 3},
	} {
		r := wire.NewReader([]byte(c.b))
		if got := c.call.read(r); got != c.want || r.Fault() != (api.Fault{}) || r.At() != c.at || r.Left() != len(c.b)-c.at {
			t.Errorf("%s of % x: %#v, %v, At %d, Left %d; not %#v, At %d", c.call.name, c.b, got, r.Fault(), r.At(), r.Left(), c.want, c.at)
		}
	}
}

// P1.2: a call after the other reads on.
func TestReadsOn(t *testing.T) {
	r := wire.NewReader([]byte("\x07\xac\x02\x01\x01\x02hi\x01\x00xyz"))
	if r.Byte() != 7 || r.Uint() != 300 || r.Int() != -1 || !r.Bool() || r.Text(2) != "hi" {
		t.Error("the first ones")
	}
	if l := r.List(1, 0); len(l) != 1 || l[0] != "" {
		t.Errorf("List: %q", l)
	}
	if string(r.Raw(2)) != "xy" || r.At() != 12 || r.Left() != 1 {
		t.Errorf("Raw: At %d, Left %d", r.At(), r.Left())
	}
	if r.Count(200) != 'z' || r.Left() != 0 || r.End() != (api.Fault{}) {
		t.Errorf("the end: %v", r.Fault())
	}
}

type wrong struct {
	b    string
	call call
	want api.Fault
}

// wrongNumbers: what Uint says of bytes, and so do all that read a number first.
func wrongNumbers() []wrong {
	nines := strings.Repeat("\xff", 9)
	eighties := strings.Repeat("\x80", 9)
	var l []wrong
	for _, c := range []struct {
		b   string
		why api.Errno
	}{
		{"", api.ErrShort},
		{"\x80", api.ErrShort},
		{nines, api.ErrShort},
		{eighties, api.ErrShort},
		{"\x80\x00", api.ErrForm},
		{"\xff\x00\x01", api.ErrForm},
		{"\x80\x80\x00", api.ErrForm},
		{eighties + "\x00", api.ErrForm},
		{nines + "\x00", api.ErrForm},
		{nines + "\x02", api.ErrWide},
		{nines + "\x7f", api.ErrWide},
		{nines + "\x80", api.ErrWide},
		{nines + "\xff", api.ErrWide},
		{nines + "\xff\x00", api.ErrWide},
		{eighties + "\x81\x00", api.ErrWide},
	} {
		for _, k := range []call{uintCall(), intCall(), countCall(math.MaxInt), countCall(0), textCall(math.MaxInt), textCall(0), listCall(9, 9), listCall(0, 0)} {
			l = append(l, wrong{c.b, k, api.Fault{Why: c.why}})
		}
	}
	return l
}

// wrongReads: bytes and calls that meet an error, each at the beginning of the bytes.
func wrongReads() []wrong {
	nines := strings.Repeat("\xff", 9)
	f := func(why api.Errno, at int) api.Fault { return api.Fault{Why: why, At: at} }
	return append(wrongNumbers(), []wrong{
		{"", byteCall(), f(api.ErrShort, 0)},
		{"", boolCall(), f(api.ErrShort, 0)},
		{"\x02", boolCall(), f(api.ErrForm, 0)},
		{"\x80\x01", boolCall(), f(api.ErrForm, 0)},
		{"\xff", boolCall(), f(api.ErrForm, 0)},
		{"\x01", countCall(-1), f(api.ErrArg, 0)},
		{"", countCall(-1), f(api.ErrArg, 0)},
		{"\x80\x00", countCall(math.MinInt), f(api.ErrArg, 0)},
		{"\x01", countCall(0), f(api.ErrCount, 0)},
		{"\x03", countCall(2), f(api.ErrCount, 0)},
		{nines + "\x01", countCall(math.MaxInt), f(api.ErrCount, 0)},
		{strings.Repeat("\x80", 9) + "\x01", countCall(math.MaxInt), f(api.ErrCount, 0)},
		{"\x00", textCall(-1), f(api.ErrArg, 0)},
		{"", textCall(math.MinInt), f(api.ErrArg, 0)},
		{"\x01a", textCall(0), f(api.ErrLong, 0)},
		{"\x03ab", textCall(2), f(api.ErrLong, 0)},
		{"\x03ab", textCall(3), f(api.ErrShort, 0)},
		{"\x01", textCall(9), f(api.ErrShort, 0)},
		{nines[1:] + "\x7fab", textCall(math.MaxInt), f(api.ErrShort, 0)},
		{nines + "\x01ab", textCall(math.MaxInt), f(api.ErrLong, 0)},
		{"\x00", listCall(-1, 0), f(api.ErrArg, 0)},
		{"\x00", listCall(0, -1), f(api.ErrArg, 0)},
		{"", listCall(math.MinInt, math.MinInt), f(api.ErrArg, 0)},
		{"\x01\x00", listCall(0, 9), f(api.ErrCount, 0)},
		{"\x03", listCall(2, 9), f(api.ErrCount, 0)},
		{nines + "\x01", listCall(math.MaxInt, 9), f(api.ErrCount, 0)},
		{"\x01", listCall(1, 9), f(api.ErrShort, 1)},
		{nines[1:] + "\x7f\x00\x00", listCall(math.MaxInt, 9), f(api.ErrShort, 11)},
		{"\x02\x01a\x02bc", listCall(2, 1), f(api.ErrLong, 3)},
		{"\x02\x01a\x02b", listCall(2, 2), f(api.ErrShort, 3)},
		{"\x02\x01a", listCall(2, 2), f(api.ErrShort, 3)},
		{"\x02\x01a\x80\x00", listCall(2, 2), f(api.ErrForm, 3)},
		{"\x02\x01a" + nines + "\x02", listCall(2, 2), f(api.ErrWide, 3)},
		{"\x02\x02ab\x80", listCall(2, 1), f(api.ErrLong, 1)},
		{"abc", rawCall(-1), f(api.ErrArg, 0)},
		{"", rawCall(math.MinInt), f(api.ErrArg, 0)},
		{"abc", rawCall(4), f(api.ErrShort, 0)},
		{"", rawCall(1), f(api.ErrShort, 0)},
		{"abc", rawCall(math.MaxInt), f(api.ErrShort, 0)},
	}...)
}

// P1.2, P1.3: an error answers zero, moves nothing, and is the fault, at the place where the call began.
func TestWrongReads(t *testing.T) {
	for _, c := range wrongReads() {
		for _, ahead := range []string{"", "x", "0123456789ab"} {
			r := wire.NewReader([]byte(ahead + c.b))
			r.Raw(len(ahead))
			want := api.Fault{Why: c.want.Why, At: c.want.At + len(ahead)}
			got := c.call.read(r)
			if got != c.call.zero || r.Fault() != want || r.At() != len(ahead) || r.Left() != len(c.b) {
				t.Errorf("%s of % x behind %d: %#v, %v, At %d, Left %d; not %v", c.call.name, c.b, len(ahead), got, r.Fault(), r.At(), r.Left(), want)
			}
		}
	}
}

// stays holds that a reader with a fault answers zero to all calls, moves nothing and keeps its fault.
func stays(t *testing.T, what string, r *wire.Reader) {
	t.Helper()
	want, at, left := r.Fault(), r.At(), r.Left()
	for _, k := range allCalls() {
		if got := k.read(r); got != k.zero {
			t.Errorf("%s: %s answers %#v behind the fault", what, k.name, got)
		}
	}
	r.Fail(api.ErrArg)
	r.Fail(api.OK)
	if end := r.End(); end != want || r.Fault() != want || r.At() != at || r.Left() != left {
		t.Errorf("%s: End %v, Fault %v, At %d, Left %d; not %v, %d, %d", what, end, r.Fault(), r.At(), r.Left(), want, at, left)
	}
}

// P1.3: whatever the first error was, it stays; what could be read behind it is not.
func TestFirstErrorStays(t *testing.T) {
	for _, c := range wrongReads() {
		r := wire.NewReader([]byte("\x01" + c.b))
		r.Byte()
		c.call.read(r)
		stays(t, c.call.name, r)
	}
	r := wire.NewReader([]byte("\x01\x01\x01\x01"))
	r.Byte()
	r.Fail(api.ErrScript)
	if r.Fault() != (api.Fault{Why: api.ErrScript, At: 1}) {
		t.Errorf("Fail: %v", r.Fault())
	}
	stays(t, "Fail", r)
	r = wire.NewReader([]byte("\x01\x01\x01\x01"))
	r.Byte()
	if r.End() != (api.Fault{Why: api.ErrMore, At: 1}) {
		t.Errorf("End: %v", r.Fault())
	}
	stays(t, "End", r)
}

// P1.3: Fail takes any error but OK, and only the first one, also at the end and of no bytes.
func TestFail(t *testing.T) {
	r := wire.NewReader([]byte("ab"))
	r.Fail(api.OK)
	if r.Fault() != (api.Fault{}) || r.Byte() != 'a' {
		t.Error("OK is no error")
	}
	r.Fail(-5)
	r.Fail(api.ErrLong)
	if r.Fault() != (api.Fault{Why: -5, At: 1}) || r.At() != 1 || r.Left() != 1 {
		t.Errorf("Fail: %v", r.Fault())
	}
	r = wire.NewReader(nil)
	r.Fail(api.ErrLong)
	if r.End() != (api.Fault{Why: api.ErrLong}) {
		t.Errorf("Fail at the end: %v", r.Fault())
	}
	r = wire.NewReader([]byte("ab"))
	r.Raw(2)
	r.Fail(api.ErrLong)
	if r.Fault() != (api.Fault{Why: api.ErrLong, At: 2}) {
		t.Errorf("Fail behind all: %v", r.Fault())
	}
}

// P1.3: End is OK where all was read, and asks again for what is read on.
func TestEnd(t *testing.T) {
	for _, b := range [][]byte{nil, {}} {
		r := wire.NewReader(b)
		if r.End() != (api.Fault{}) || r.Fault() != (api.Fault{}) || r.At() != 0 || r.Left() != 0 {
			t.Errorf("of no bytes: %v", r.Fault())
		}
	}
	r := wire.NewReader([]byte("a"))
	r.Byte()
	if r.End() != (api.Fault{}) || r.End() != (api.Fault{}) || r.Fault() != (api.Fault{}) {
		t.Errorf("all was read: %v", r.Fault())
	}
	if r.Byte() != 0 || r.End() != (api.Fault{Why: api.ErrShort, At: 1}) {
		t.Errorf("behind the end: %v", r.Fault())
	}
}

// P1.2, P1.3: the third example of the chapter.
func TestThirdExample(t *testing.T) {
	b := []byte("\x01\x03ab")
	r := wire.NewReader(b)
	if r.Byte() != 1 || r.Text(9) != "" || r.Fault() != (api.Fault{Why: api.ErrShort, At: 1}) || r.At() != 1 || r.Left() != 3 || r.Byte() != 0 || r.At() != 1 {
		t.Errorf("Text(9): %v", r.Fault())
	}
	r = wire.NewReader(b)
	if r.Byte() != 1 || r.Text(2) != "" || r.Fault() != (api.Fault{Why: api.ErrLong, At: 1}) {
		t.Errorf("Text(2): %v", r.Fault())
	}
	r = wire.NewReader(b)
	if r.Count(2) != 1 || r.Count(2) != 0 || r.Fault() != (api.Fault{Why: api.ErrCount, At: 1}) {
		t.Errorf("Count(2): %v", r.Fault())
	}
}

// P1.4: a reader that NewReader did not give, nil or plain.
func TestNoReader(t *testing.T) {
	want := api.Fault{Why: api.ErrNil}
	for _, r := range []*wire.Reader{nil, {}, new(wire.Reader)} {
		if r.At() != 0 || r.Left() != 0 || r.Fault() != want || r.End() != want {
			t.Errorf("At %d, Left %d, Fault %v, End %v", r.At(), r.Left(), r.Fault(), r.End())
		}
		r.Fail(api.OK)
		r.Fail(api.ErrLong)
		stays(t, "no reader", r)
		if r.Fault() != want || r.At() != 0 || r.Left() != 0 {
			t.Errorf("afterwards: %v", r.Fault())
		}
	}
}

// P1.2, R4: a reader goes over the bytes as they were, and leaves them as they are.
func TestReaderKeepsItsBytes(t *testing.T) {
	whole := []byte("\x02hi\x01\x01abehind")
	before := string(whole)
	b := whole[:6]
	r := wire.NewReader(b)
	if r.Left() != 6 {
		t.Errorf("Left %d", r.Left())
	}
	fill(whole, 0)
	if s, l := r.Text(9), r.List(9, 9); s != "hi" || len(l) != 1 || l[0] != "a" || r.End() != (api.Fault{}) {
		t.Errorf("%q, %q, %v", s, l, r.Fault())
	}
	copy(whole, before)
	r = wire.NewReader(b)
	fill(r.Raw(6), '#')
	if string(whole) != before {
		t.Errorf("what was handed in became %q", whole)
	}
}

// R4: what Raw answers, spare room too, is apart from the reader and from another answer.
func TestRawIsNewMemory(t *testing.T) {
	r := wire.NewReader([]byte("abcdef"))
	none, one := r.Raw(0), r.Raw(2)
	two := r.Raw(2)
	fill(none, '#')
	fill(one, '#')
	fill(append(one, "###"...), '#')
	if string(two) != "cd" || string(r.Raw(2)) != "ef" {
		t.Errorf("%q, %v", two, r.Fault())
	}
}

// R4: what List answers, spare room too, is apart from another answer.
func TestListIsNewMemory(t *testing.T) {
	b := wire.PutList(wire.PutList(nil, "a", "b", "c"), "d", "e", "f")
	r := wire.NewReader(b)
	one := r.List(9, 9)
	if !slices.Equal(one, []string{"a", "b", "c"}) {
		t.Errorf("%q", one)
	}
	one = one[:cap(one)]
	for i := range one {
		one[i] = "#"
	}
	if two := r.List(9, 9); !slices.Equal(two, []string{"d", "e", "f"}) {
		t.Errorf("%q", two)
	}
}

// R5: two readers of the same bytes know nothing of one another.
func TestReadersApart(t *testing.T) {
	b := []byte("abc")
	one, two := wire.NewReader(b), wire.NewReader(b)
	one.Raw(2)
	one.Fail(api.ErrLong)
	if two.At() != 0 || two.Fault() != (api.Fault{}) || two.Byte() != 'a' {
		t.Errorf("At %d, %v", two.At(), two.Fault())
	}
}
