package check_test

import (
	"bytes"
	"crypto/sha256"
	"encoding/binary"
	"fmt"
	"math"
	"slices"
	"strings"
	"testing"

	"treadle/api"
	"treadle/check"
)

// slowBytes are a face's bytes, as another library lays numbers down.
func slowBytes(f api.Face) []byte {
	b := binary.AppendUvarint(nil, uint64(len(f.Consts)))
	text := func(s string) { b = append(binary.AppendUvarint(b, uint64(len(s))), s...) }
	for _, c := range f.Consts {
		text(c.Name)
		b = append(b, byte(c.Value.Type))
		switch c.Value.Type {
		case api.TypeInt:
			b = binary.AppendVarint(b, c.Value.Int)
		case api.TypeBool:
			b = append(b, byte(cond(c.Value.Bool, 1, 0)))
		case api.TypeText:
			text(c.Value.Text)
		}
	}
	b = binary.AppendUvarint(b, uint64(len(f.Funcs)))
	for _, x := range f.Funcs {
		text(x.Name)
		b = append(b, byte(len(x.Params)))
		for _, p := range append(slices.Clone(x.Params), x.Result) {
			b = append(b, byte(p))
		}
	}
	return b
}

// piece is bytes that are read: up to the first fault, which is panicked with.
type piece struct {
	b  []byte
	at int
}

func (p *piece) fail(is bool, why api.Errno, at int) {
	if is {
		panic(fault(why, at))
	}
}

func (p *piece) uint() uint64 {
	for i, c := range p.b[p.at:] {
		p.fail(i == 9 && c > 1, api.ErrWide, p.at)
		p.fail(i > 0 && c == 0, api.ErrForm, p.at)
		if c < 128 {
			n, _ := binary.Uvarint(p.b[p.at:])
			p.at += i + 1
			return n
		}
	}
	panic(fault(api.ErrShort, p.at))
}

// upTo is a number of at most so much.
func (p *piece) upTo(most uint64, why api.Errno) int {
	at := p.at
	n := p.uint()
	p.fail(n > most, why, at)
	return int(n)
}

func (p *piece) text(most uint64) string {
	at := p.at
	n := p.upTo(most, api.ErrLong)
	p.fail(n > len(p.b)-p.at, api.ErrShort, at)
	p.at += n
	return string(p.b[p.at-n : p.at])
}

func (p *piece) value() (v api.Value) {
	v.Type = api.Type(p.upTo(3, api.ErrCount))
	switch v.Type {
	case api.TypeInt:
		n := p.uint()
		v.Int = int64(n / 2)
		if n%2 == 1 {
			v.Int = -v.Int - 1
		}
	case api.TypeBool:
		p.fail(p.at == len(p.b), api.ErrShort, p.at)
		p.fail(p.b[p.at] > 1, api.ErrForm, p.at)
		v.Bool = p.b[p.at] == 1
		p.at++
	case api.TypeText:
		v.Text = p.text(4096)
	}
	return v
}

// slowRead is P17.4: as soon as something is read, the whole face so far is asked for.
func slowRead(b []byte) (f api.Face, wrong api.Fault) {
	p := &piece{b: b}
	defer func() {
		if v := recover(); v != nil {
			f, wrong = api.Face{}, v.(api.Fault)
		}
	}()
	for range p.upTo(128, api.ErrCount) {
		at := p.at
		f.Consts = append(f.Consts, api.Bind{Name: p.text(32), Value: p.value()})
		p.fail(!slowRight(f), api.ErrForm, at)
	}
	for range p.upTo(128, api.ErrCount) {
		at := p.at
		x := api.Sig{Name: p.text(32)}
		for range p.upTo(64, api.ErrCount) {
			x.Params = append(x.Params, api.Type(p.upTo(3, api.ErrCount)))
		}
		x.Result = api.Type(p.upTo(3, api.ErrCount))
		f.Funcs = append(f.Funcs, x)
		p.fail(!slowRight(f), api.ErrForm, at)
	}
	p.fail(p.at < len(b), api.ErrMore, p.at)
	return f, api.Fault{}
}

// reads asks for what stands in bytes, and whether they are the ones of that.
func reads(t *testing.T, b []byte) api.Fault {
	t.Helper()
	f, wrong := check.Read(b)
	want, why := slowRead(b)
	if !equal(f, want) || wrong != why {
		t.Fatalf("Read(% .200x): %v, %v, not %v, %v", b, f, wrong, want, why)
	}
	if wrong == (api.Fault{}) {
		if again, e := check.Bytes(f); !bytes.Equal(again, b) || e != api.OK || !check.Right(f) {
			t.Fatalf("Bytes(Read(% .200x)): % .200x, %v", b, again, e)
		}
	}
	return wrong
}

// isRight asks for what must be so of a face that is right.
func isRight(t *testing.T, what string, f api.Face) {
	t.Helper()
	b, e := check.Bytes(f)
	if !check.Right(f) || !slowRight(f) || e != api.OK || !bytes.Equal(b, slowBytes(f)) {
		t.Errorf("%s: %.200v: % .200x, %v", what, f, b, e)
	}
	if g, wrong := check.Read(b); !equal(f, g) || wrong != (api.Fault{}) {
		t.Errorf("%s: %.200v, not %.200v: %v", what, g, f, wrong)
	}
	d, e := check.Digest(f)
	if e != api.OK || d != slowDigest(b) {
		t.Errorf("%s: %x, %v", what, d, e)
	}
}

// slowDigest is SHA-256 of the tag and the bytes, each with its length ahead.
func slowDigest(b []byte) api.Digest {
	pre := append([]byte("\x04face"), binary.BigEndian.AppendUint64(nil, uint64(len(b)))...)
	return sha256.Sum256(append(pre, b...))
}

func notRight(t *testing.T, what string, f api.Face) {
	t.Helper()
	b, e := check.Bytes(f)
	d, x := check.Digest(f)
	if check.Right(f) || slowRight(f) || e != api.ErrForm || len(b) > 0 || x != api.ErrForm || d != (api.Digest{}) {
		t.Errorf("%s: %.200v: % .200x, %v, %x, %v", what, f, b, e, d, x)
	}
}

func sig(name string, result api.Type, params ...api.Type) api.Sig {
	return api.Sig{Name: name, Params: params, Result: result}
}

// P17.4: the chapter's example.
func TestFaceExample(t *testing.T) {
	f := api.Face{Consts: []api.Bind{bind("a", n(6))}, Funcs: []api.Sig{sig("g", api.TypeBool, api.TypeText)}}
	b, e := check.Bytes(f)
	if !bytes.Equal(b, []byte{1, 1, 97, 1, 12, 1, 1, 103, 1, 3, 2}) || e != api.OK {
		t.Error(b, e)
	}
	isRight(t, "the example", f)
	// As another program tells it.
	if d, _ := check.Digest(f); fmt.Sprintf("%x", d) != "cbb0b4278ff1fe68d7b516bde59e8dc1bf0d9442335c4045e54cbbcf28d7f375" {
		t.Errorf("%x", d)
	}
}

// rightFace has something of each kind.
func rightFace() api.Face {
	return api.Face{
		Consts: []api.Bind{bind("A", n(math.MinInt64)), bind("_", truthOf(true)), bind("a", textOf("\x00 text")), bind("a1", n(0)), bind("b", truthOf(false)), bind("c", textOf(""))},
		Funcs:  []api.Sig{sig("B", api.TypeNone), sig("__", api.TypeInt, api.TypeInt, api.TypeBool, api.TypeText), sig("aa", api.TypeText, api.TypeText), sig("f", api.TypeBool)},
	}
}

// manyNames are so many words that rise.
func manyNames(ahead string, n int) (l []string) {
	for i := range n {
		l = append(l, fmt.Sprintf("%s%03d", ahead, i))
	}
	return l
}

func manyFace(consts, funcs int) (f api.Face) {
	for _, name := range manyNames("c", consts) {
		f.Consts = append(f.Consts, bind(name, n(1)))
	}
	for _, name := range manyNames("f", funcs) {
		f.Funcs = append(f.Funcs, sig(name, api.TypeNone))
	}
	return f
}

// P17.4, P17.5: faces that are right: the edges.
func TestRightFaces(t *testing.T) {
	isRight(t, "an empty one", api.Face{})
	isRight(t, "empty lists", api.Face{Consts: []api.Bind{}, Funcs: []api.Sig{}})
	isRight(t, "one of each", rightFace())
	for _, most := range [][2]int{{128, 0}, {0, 128}, {128, 128}, {127, 128}} {
		isRight(t, "many", manyFace(most[0], most[1]))
	}
	right, _ := sampleValues()
	for _, v := range right {
		isRight(t, "a value", api.Face{Consts: []api.Bind{bind("a", v)}})
	}
	for _, k := range []int{0, 1, 63, 64} {
		for result := api.TypeNone; result <= api.TypeText; result++ {
			isRight(t, "parameters", api.Face{Funcs: []api.Sig{sig("f", result, slices.Repeat([]api.Type{api.TypeText}, k)...)}})
		}
	}
	isRight(t, "long names", api.Face{Consts: []api.Bind{bind(strings.Repeat("x", 32), n(1))}, Funcs: []api.Sig{sig(strings.Repeat("y", 32), 0)}})
	isRight(t, "names in unlike places", api.Face{Consts: []api.Bind{bind("b", n(1))}, Funcs: []api.Sig{sig("a", 0), sig("c", 0)}})
	isRight(t, "an empty list of types", api.Face{Funcs: []api.Sig{{Name: "f", Params: []api.Type{}}}})
}

// P17.4: one thing wrong at a time.
func TestWrongFaces(t *testing.T) {
	notRight(t, "129 constants", manyFace(129, 0))
	notRight(t, "129 functions", manyFace(0, 129))
	notRight(t, "129 of both", manyFace(129, 129))
	_, wrong := sampleValues()
	for i := range rightFace().Consts {
		for _, v := range wrong {
			f := rightFace()
			f.Consts[i].Value = v
			notRight(t, "a value", f)
		}
	}
	for _, name := range []string{"", "if", "text", "1", "a b", "a.b", "a ", "ä", "-", strings.Repeat("x", 33), "\x00", "a\n"} {
		notRight(t, "a constant's name", api.Face{Consts: []api.Bind{bind(name, n(1))}})
		notRight(t, "a function's name", api.Face{Funcs: []api.Sig{sig(name, 0)}})
	}
	for i := range 5 {
		f := rightFace()
		f.Consts[i].Name = f.Consts[i+1].Name
		notRight(t, "a constant's name twice", f)
		f = rightFace()
		f.Consts[i], f.Consts[i+1] = f.Consts[i+1], f.Consts[i]
		notRight(t, "constants that fall", f)
	}
	for i := range 3 {
		f := rightFace()
		f.Funcs[i].Name = f.Funcs[i+1].Name
		notRight(t, "a function's name twice", f)
		f = rightFace()
		f.Funcs[i], f.Funcs[i+1] = f.Funcs[i+1], f.Funcs[i]
		notRight(t, "functions that fall", f)
	}
	for _, c := range rightFace().Consts {
		f := rightFace()
		f.Funcs = []api.Sig{sig(c.Name, 0)}
		notRight(t, "a name in both", f)
	}
	for i := range rightFace().Funcs {
		for _, x := range []api.Type{-1, 4, math.MaxInt, math.MinInt} {
			f := rightFace()
			f.Funcs[i].Result = x
			notRight(t, "a result", f)
			f = rightFace()
			f.Funcs[i].Params = append(slices.Clone(f.Funcs[i].Params), x)
			notRight(t, "a parameter", f)
		}
		f := rightFace()
		f.Funcs[i].Params = []api.Type{api.TypeInt, api.TypeNone, api.TypeInt}
		notRight(t, "a parameter of no type", f)
		f = rightFace()
		f.Funcs[i].Params = slices.Repeat([]api.Type{api.TypeInt}, 65)
		notRight(t, "65 parameters", f)
	}
}

// P17.4: bytes with something wrong, at its place.
func TestReadFaults(t *testing.T) {
	long := func(n int) string { return strings.Repeat("x", n) }
	for _, c := range []struct {
		b   string
		why api.Errno
		at  int
	}{
		{"", api.ErrShort, 0}, {"\x00", api.ErrShort, 1}, {"\x00\x00\x00", api.ErrMore, 2}, {"\x81\x01", api.ErrCount, 0}, {"\x80\x01", api.ErrShort, 2}, {"\x00\x81\x01", api.ErrCount, 1}, {"\x80\x00", api.ErrForm, 0},
		{"\xff\xff\xff\xff\xff\xff\xff\xff\xff\x02", api.ErrWide, 0}, {"\xff\xff\xff\xff\xff\xff\xff\xff\xff\x01", api.ErrCount, 0}, {"\x80", api.ErrShort, 0},
		{"\x01\x21" + long(33), api.ErrLong, 1}, {"\x01\x20" + long(31), api.ErrShort, 1}, {"\x01\x01a", api.ErrShort, 3}, {"\x01\x01a\x04", api.ErrCount, 3}, {"\x01\x01a\x01", api.ErrShort, 4}, {"\x01\x01a\x01\x80\x00", api.ErrForm, 4},
		{"\x01\x01a\x02\x02", api.ErrForm, 4}, {"\x01\x01a\x02", api.ErrShort, 4}, {"\x01\x01a\x03\x81\x20" + long(4097), api.ErrLong, 4}, {"\x01\x01a\x03\x02x", api.ErrShort, 4},
		{"\x01\x01a\x00", api.ErrForm, 1}, {"\x01\x00\x01\x02\x00", api.ErrForm, 1}, {"\x01\x02if\x01\x02", api.ErrForm, 1}, {"\x01\x02if\x01", api.ErrShort, 5}, {"\x02\x01a\x01\x02\x01a\x01\x02", api.ErrForm, 5}, {"\x02\x01b\x01\x02\x01a\x02\x01\xff", api.ErrForm, 5},
		{"\x02\x01a\x00\x01", api.ErrForm, 1}, {"\x02\x01a\x01\x02", api.ErrShort, 5}, {"\x01\x01a\x01\x02", api.ErrShort, 5}, {"\x01\x01a\x01\x02\x01\x01a\x00\x00", api.ErrForm, 6}, {"\x01\x01a\x01\x02\x01\x01a\x00", api.ErrShort, 9},
		{"\x00\x01\x01f\x41", api.ErrCount, 4}, {"\x00\x01\x01f\x01\x04", api.ErrCount, 5}, {"\x00\x01\x01f\x01\x00\x00", api.ErrForm, 2}, {"\x00\x01\x01f\x01\x00\x04", api.ErrCount, 6}, {"\x00\x01\x01f\x01\x00", api.ErrShort, 6},
		{"\x00\x01\x01f\x00\x04", api.ErrCount, 5}, {"\x00\x01\x01f\x00", api.ErrShort, 5}, {"\x00\x01\x00\x00\x00", api.ErrForm, 2}, {"\x00\x02\x01f\x00\x00\x01f\x00\x00", api.ErrForm, 6}, {"\x00\x02\x01g\x00\x00\x01f\x00\x00", api.ErrForm, 6}, {"\x00\x01\x21" + long(33), api.ErrLong, 2},
		{"\x00\x02\x01f\x00\x00\x01g\x00\x00\x00", api.ErrMore, 10}, {"\x00\x02\x01f\x00\x00\x01g\x00\x00", api.OK, 0}, {"\x01\x01a\x03\x80\x20" + long(4096) + "\x00", api.OK, 0}, {"\x01\x20" + long(32) + "\x02\x01\x00", api.OK, 0},
		{"\x00\x01\x01f\x40" + strings.Repeat("\x02", 64) + "\x00", api.OK, 0}, {"\x00\x01\x01f\x40" + strings.Repeat("\x02", 63) + "\x00\x00", api.ErrForm, 2},
	} {
		if f := reads(t, []byte(c.b)); f != fault(c.why, c.at) {
			t.Errorf("% .99x: %v, not %v", c.b, f, fault(c.why, c.at))
		}
	}
	// Which places are those of 129 items is told ahead of these.
	for _, f := range []api.Face{manyFace(129, 0), manyFace(0, 129)} {
		reads(t, slowBytes(f))
	}
}

// P17.4, P17.5: beginnings, bytes behind, bytes turned and lost.
func TestReadSpoilt(t *testing.T) {
	all, _ := check.Bytes(rightFace())
	reads(t, all)
	for i := range all {
		if f := reads(t, all[:i]); f.Why != api.ErrShort {
			t.Errorf("the first %d bytes: %v", i, f)
		}
		reads(t, append(slices.Clone(all[:i]), all[i+1:]...))
		for c := range 256 {
			turned := slices.Clone(all)
			turned[i] = byte(c)
			reads(t, turned)
			reads(t, slices.Insert(slices.Clone(all), i, byte(c)))
		}
	}
	for c := range 256 {
		if f := reads(t, append(slices.Clone(all), byte(c))); f != fault(api.ErrMore, len(all)) {
			t.Error(f)
		}
	}
	for _, f := range []api.Face{manyFace(128, 128), {Consts: []api.Bind{bind("a", textOf(strings.Repeat("x", 4096)))}}} {
		b := slowBytes(f)
		for i := 0; i < len(b); i += 7 {
			reads(t, b[:i])
		}
	}
}

// P17.4, P17.5: all bytes of a few that matter.
func TestReadFew(t *testing.T) {
	found := 0
	var grow func(b []byte, rest int)
	grow = func(b []byte, rest int) {
		if f := reads(t, b); f == (api.Fault{}) {
			found++
		}
		if f, _ := slowRead(b); rest == 0 || len(f.Consts)+len(f.Funcs) > 0 {
			return
		}
		for _, c := range []byte{0, 1, 2, 3, 4, 'a', 'b', 128} {
			grow(append(slices.Clone(b), c), rest-1)
		}
	}
	grow(nil, 5)
	for _, b := range []string{"\x01\x01", "\x02\x01a\x01\x00\x01", "\x00\x01\x01", "\x00\x02\x01a\x00\x00\x01", "\x01\x01a\x02\x01\x01\x01"} {
		grow([]byte(b), 5)
	}
	if found < 50 {
		t.Error("too few faces:", found)
	}
}

// P17.4, P17.5: faces by chance, with more or less that is wrong, and their bytes.
func TestRandomFaces(t *testing.T) {
	r := newMaker(5, 6)
	right := 0
	for range 10000 {
		f := r.face()
		for r.slips() {
			f.Consts = append(f.Consts, bind(one(r, words...), r.valueOf(r.anyType())))
		}
		for r.slips() && len(f.Funcs) > 0 {
			f.Funcs[0].Params = append(f.Funcs[0].Params, api.Type(r.IntN(5)))
		}
		b := slowBytes(f)
		if check.Right(f) {
			right++
			isRight(t, "by chance", f)
		} else {
			notRight(t, "by chance", f)
		}
		reads(t, b)
		b[r.IntN(len(b))] = byte(r.IntN(6))
		reads(t, b)
		reads(t, b[:r.IntN(len(b))])
	}
	if right < 1000 || right > 9000 {
		t.Error(right, "are right")
	}
}

// P17.4: unlike faces have unlike digests.
func TestDigest(t *testing.T) {
	seen := map[api.Digest]int{}
	faces := []api.Face{{}, rightFace(), manyFace(1, 0), manyFace(0, 1), manyFace(1, 1), {Consts: []api.Bind{bind("c000", n(2))}}, {Consts: []api.Bind{bind("c000", truthOf(true))}}, {Consts: []api.Bind{bind("c000", textOf(""))}},
		{Funcs: []api.Sig{sig("f000", api.TypeInt)}}, {Funcs: []api.Sig{sig("f000", api.TypeNone, api.TypeInt)}}}
	for i, f := range faces {
		d, e := check.Digest(f)
		if j, there := seen[d]; there || e != api.OK {
			t.Error(i, j, d, e)
		}
		seen[d] = i
	}
}
