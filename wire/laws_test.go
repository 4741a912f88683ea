package wire_test

import (
	"math"
	"math/rand/v2"
	"slices"
	"testing"

	"treadle/api"
	"treadle/wire"
)

// piece is something that was put, and the call that reads it back.
type piece struct {
	bytes []byte
	call  call
	want  any
}

func someText(g *rand.Rand) string {
	b := make([]byte, g.IntN(4)*g.IntN(70))
	for i := range b {
		b[i] = byte(g.Uint32())
	}
	return string(b)
}

func someTexts(g *rand.Rand) []string {
	l := make([]string, g.IntN(4)*g.IntN(60))
	for i := range l {
		l[i] = someText(g)
	}
	return l
}

func somePieces(g *rand.Rand) []piece {
	n := g.Uint64() >> g.IntN(64)
	i := int64(g.Uint64()) >> g.IntN(64)
	c := g.IntN(math.MaxInt) >> g.IntN(63)
	x := g.IntN(2) == 1
	s, l := someText(g), someTexts(g)
	many := []piece{
		{wire.PutUint(nil, n), uintCall(), n},
		{wire.PutInt(nil, i), intCall(), i},
		{wire.PutUint(nil, uint64(c)), countCall(c), c},
		{wire.PutBool(nil, x), boolCall(), x},
		{wire.PutText(nil, s), textCall(len(s)), s},
		{wire.PutList(nil, l...), listCall(len(l), 300), texts(l)},
		{[]byte(s), rawCall(len(s)), s},
	}
	g.Shuffle(len(many), func(i, j int) { many[i], many[j] = many[j], many[i] })
	return many
}

// P1.5: what was put is read back by the same calls, with whatever behind it.
func TestThereAndBack(t *testing.T) {
	g := rand.New(rand.NewPCG(1, 5))
	for range 300 {
		many := somePieces(g)
		var b []byte
		for _, p := range many {
			b = append(b, p.bytes...)
		}
		behind := someText(g)
		r := wire.NewReader(append(b, behind...))
		at := 0
		for _, p := range many {
			at += len(p.bytes)
			if got := p.call.read(r); got != p.want || r.At() != at || r.Fault() != (api.Fault{}) {
				t.Fatalf("%s: %#v, not %#v; At %d, not %d; %v", p.call.name, got, p.want, r.At(), at, r.Fault())
			}
		}
		if string(r.Raw(r.Left())) != behind || r.End() != (api.Fault{}) {
			t.Fatalf("what is behind: %v", r.Fault())
		}
	}
}

// P1.5: at the edges of the numbers.
func TestNumbersThereAndBack(t *testing.T) {
	for _, n := range edgeNumbers() {
		r := wire.NewReader(wire.PutUint(nil, n))
		if got := r.Uint(); got != n || r.End() != (api.Fault{}) {
			t.Errorf("%d came back as %d, %v", n, got, r.Fault())
		}
	}
	for _, n := range edgeInts() {
		r := wire.NewReader(wire.PutInt(nil, n))
		if got := r.Int(); got != n || r.End() != (api.Fault{}) {
			t.Errorf("%d came back as %d, %v", n, got, r.Fault())
		}
	}
}

// P1.5: texts that were laid down by one call are read one by one.
func TestTextsThereAndBack(t *testing.T) {
	l := []string{"", "a", "", "long enough", "\x80\x00"}
	r := wire.NewReader(wire.PutText([]byte("ahead"), l...))
	r.Raw(5)
	for _, s := range l {
		if got := r.Text(len(s)); got != s {
			t.Errorf("%q came back as %q", s, got)
		}
	}
	if r.End() != (api.Fault{}) {
		t.Errorf("%v", r.Fault())
	}
}

// eachBytes goes over all bytes of at most so many, of those at which something turns.
func eachBytes(most int, do func(b []byte)) {
	var grow func(b []byte)
	grow = func(b []byte) {
		do(b)
		if len(b) == most {
			return
		}
		for _, c := range []byte{0, 1, 2, 3, 127, 128, 129, 255} {
			grow(append(b, c))
		}
	}
	grow(make([]byte, 0, most))
}

// tenBytes goes over numbers of nine to eleven bytes, right and wrong.
func tenBytes(do func(b []byte)) {
	for _, low := range []byte{127, 128, 129, 255} {
		head := slices.Repeat([]byte{low | 128}, 8)
		for _, c := range []byte{0, 1, 2, 127, 128, 255} {
			for _, d := range []byte{0, 1, 2, 127, 128, 129, 255} {
				do(append(slices.Clone(head), c))
				do(append(slices.Clone(head), c, d))
				do(append(slices.Clone(head), c, d, 0))
				do(append(slices.Clone(head), c, d, 1))
			}
		}
	}
}

func oneForm(t *testing.T, name string, b []byte, r *wire.Reader, put []byte) {
	t.Helper()
	if r.Fault() == (api.Fault{}) && string(put) != string(b[:r.At()]) {
		t.Errorf("%s of % x: laid down as % x", name, b, put)
	}
}

func holdOneForm(t *testing.T, b []byte) {
	t.Helper()
	r := wire.NewReader(b)
	oneForm(t, "Uint", b, r, wire.PutUint(nil, r.Uint()))
	r = wire.NewReader(b)
	oneForm(t, "Int", b, r, wire.PutInt(nil, r.Int()))
	r = wire.NewReader(b)
	oneForm(t, "Bool", b, r, wire.PutBool(nil, r.Bool()))
	r = wire.NewReader(b)
	oneForm(t, "Text", b, r, wire.PutText(nil, r.Text(math.MaxInt)))
	r = wire.NewReader(b)
	oneForm(t, "List", b, r, wire.PutList(nil, r.List(math.MaxInt, math.MaxInt)...))
}

// P1.6: what is read without a fault is laid down as just the bytes that were read.
func TestOneForm(t *testing.T) {
	eachBytes(5, func(b []byte) { holdOneForm(t, b) })
	tenBytes(func(b []byte) { holdOneForm(t, b) })
}

// holdBeginning: over fewer of the bytes the same calls read the same, up to the first that meets ErrShort.
func holdBeginning(t *testing.T, b []byte, n int, calls []call) {
	t.Helper()
	whole, part := wire.NewReader(b), wire.NewReader(b[:n])
	for _, k := range calls {
		want, got := k.read(whole), k.read(part)
		if part.Fault().Why == api.ErrShort {
			return
		}
		if got != want || part.Fault() != whole.Fault() || part.At() != whole.At() {
			t.Fatalf("%s over %d of % x: %#v, %v, At %d; not %#v, %v, At %d", k.name, n, b, got, part.Fault(), part.At(), want, whole.Fault(), whole.At())
		}
	}
}

// P1.7: any one call, over all short bytes.
func TestBeginningsOfOneCall(t *testing.T) {
	calls := allCalls()
	eachBytes(4, func(b []byte) {
		for n := range b {
			for i := range calls {
				holdBeginning(t, b, n, calls[i:i+1])
			}
		}
	})
}

// P1.7: calls in any order, over what was put and what was not.
func TestBeginningsOfCalls(t *testing.T) {
	g := rand.New(rand.NewPCG(1, 7))
	wide := allCalls()[:10]
	for range 200 {
		var b []byte
		var calls []call
		for _, p := range somePieces(g) {
			b = append(b, p.bytes...)
			calls = append(calls, p.call)
		}
		b = append(b, someText(g)...)
		calls = append(calls, wide[g.IntN(len(wide))], wide[g.IntN(len(wide))])
		if g.IntN(2) == 1 {
			g.Shuffle(len(calls), func(i, j int) { calls[i], calls[j] = calls[j], calls[i] })
		}
		for range 20 {
			holdBeginning(t, b, g.IntN(len(b)+1), calls)
		}
	}
}
