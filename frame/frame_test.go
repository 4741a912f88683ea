package frame_test

import (
	"encoding/hex"
	"math"
	"math/rand/v2"
	"slices"
	"strings"
	"testing"

	"treadle/api"
	"treadle/frame"
)

// tool is the digest whose bytes are 0, 1, 2 and so on.
func tool() api.Digest {
	var d api.Digest
	for i := range d {
		d[i] = byte(i)
	}
	return d
}

func limits(modules, fuel, diags int) api.Limits {
	return api.Limits{Modules: modules, Fuel: fuel, Diags: diags}
}

// golden are frames, and their bytes as another program reckoned them.
func golden() map[string]api.Frame {
	return map[string]api.Frame{
		"0105b9fb32d7":                     {Kind: 5},
		"0304ac028cad7602":                 {Kind: 4, Id: 300},
		"0b04ffffffffffffffffff01fb07f045": {Kind: 4, Id: math.MaxUint64},
		"23010140000102030405060708090a0b0c0d0e0f101112131415161718191a1b1c1d1e1f506b1794": {Kind: 1, Version: 1, Slots: 64, Tool: tool()},
		"17020740808040000205636865636b03612f62047472656520ba8e1c":                         {Kind: 2, Id: 7, Limits: limits(64, 1<<20, 0), Args: []string{"check", "a/b"}, Body: "tree"},
		"07020000000000001eee77a6":                            {Kind: 2},
		"0f03808080801001077061796c6f6164fb73c1d6":            {Kind: 3, Id: 1 << 32, Status: 1, Body: "payload"},
		"0403090200e9dd407d":                                  {Kind: 3, Id: 9, Status: 2},
		"04030903009e45e26e":                                  {Kind: 3, Id: 9, Status: 3},
		"070605ff00206869064c821b":                            {Kind: 6, Body: "\xff\x00 hi"},
		"cb0106c801" + strings.Repeat("78", 200) + "fbd4a9e6": {Kind: 6, Body: strings.Repeat("x", 200)},
	}
}

// farLimits may be, and are encoded, but are not read.
const farLimits = "170201ffffffffffffffff7f818080800880808080080000285eb3ff"

func unhex(t *testing.T, s string) []byte {
	t.Helper()
	b, err := hex.DecodeString(s)
	if err != nil {
		t.Fatal(err)
	}
	return b
}

// holdWriting asks of Check, Encode, Size and All what they say of one frame.
func holdWriting(t *testing.T, f api.Frame, want []byte, e api.Errno) {
	t.Helper()
	if got := frame.Check(f); got != e {
		t.Errorf("Check of %s: %v, not %v", show(f), got, e)
	}
	if b, got := frame.Encode(f); string(b) != string(want) || got != e {
		t.Errorf("Encode of %s: %s, %v, not %s, %v", show(f), show(b), got, show(want), e)
	}
	if n, got := frame.Size(f); n != len(want) || got != e {
		t.Errorf("Size of %s: %d, %v, not %d, %v", show(f), n, got, len(want), e)
	}
	if b, got := frame.All(f); string(b) != string(want) || got != e {
		t.Errorf("All of %s: %s, %v, not %s, %v", show(f), show(b), got, show(want), e)
	}
}

// P7.1, P7.3: a frame of each kind, against what another program made of it.
func TestGolden(t *testing.T) {
	for s, f := range golden() {
		b := unhex(t, s)
		holdWriting(t, f, b, api.OK)
		if got, why := frame.Decode(b); !frame.Same(got, f) || why != (api.Fault{}) {
			t.Errorf("Decode of %s: %s, %v", s, show(got), why)
		}
	}
	holdWriting(t, frame.Request(1, limits(math.MaxInt64, 1<<31+1, 1<<31), ""), unhex(t, farLimits), api.OK)
}

// P7.1: the examples of the chapter.
func TestWritingExamples(t *testing.T) {
	holdWriting(t, frame.Bye(), sealed(5), api.OK)
	holdWriting(t, frame.Cancel(300), sealed(4, 172, 2), api.OK)
	if n, e := frame.Size(frame.Bye()); n != 6 || e != api.OK {
		t.Errorf("Size of Bye: %d, %v", n, e)
	}
	for _, f := range []api.Frame{frame.Hello(0, tool()), {Kind: 4, Body: "x"}, frame.Response(1, 2, "x")} {
		holdWriting(t, f, nil, api.ErrFrame)
	}
}

// P7.1: no kind but the six.
func TestNoKind(t *testing.T) {
	for _, kind := range []int{0, -1, 7, 8, 256 + 5, 1<<32 + 5, math.MinInt, math.MaxInt} {
		holdWriting(t, api.Frame{Kind: kind}, nil, api.ErrFrame)
		holdWriting(t, api.Frame{Kind: kind, Version: 1, Slots: 1, Status: 1}, nil, api.ErrFrame)
	}
}

// P7.1: each field that a kind has not, set in a frame that may be else.
func TestForeignFields(t *testing.T) {
	set := map[string]func(f *api.Frame){
		"Id":      func(f *api.Frame) { f.Id = 1 << 63 },
		"Version": func(f *api.Frame) { f.Version = 1 },
		"Slots":   func(f *api.Frame) { f.Slots = 1 },
		"Tool":    func(f *api.Frame) { f.Tool[31] = 1 },
		"Status":  func(f *api.Frame) { f.Status = 1 },
		"Modules": func(f *api.Frame) { f.Limits.Modules = 1 },
		"Fuel":    func(f *api.Frame) { f.Limits.Fuel = 1 },
		"Diags":   func(f *api.Frame) { f.Limits.Diags = 1 },
		"Args":    func(f *api.Frame) { f.Args = []string{""} },
		"Body":    func(f *api.Frame) { f.Body = "\x00" },
	}
	has := map[int]string{
		1: "Version Slots Tool", 2: "Id Modules Fuel Diags Args Body", 3: "Id Status Body", 4: "Id", 5: "", 6: "Body",
	}
	for _, f := range []api.Frame{frame.Hello(1, tool()), frame.Request(1, limits(1, 2, 3), "b", "a"), frame.Response(1, 1, "b"), frame.Cancel(1), frame.Bye(), frame.Note("b")} {
		if e := frame.Check(f); e != api.OK {
			t.Errorf("%s: %v", show(f), e)
		}
		for name, do := range set {
			g := f
			do(&g)
			if strings.Contains(has[f.Kind], name) {
				want, _ := slowEncode(g)
				holdWriting(t, g, want, api.OK)
				continue
			}
			holdWriting(t, g, nil, api.ErrFrame)
		}
	}
}

// P7.1: an empty list of Args is none, in every kind.
func TestEmptyArgs(t *testing.T) {
	for _, f := range golden() {
		if len(f.Args) == 0 {
			g := f
			g.Args = []string{}
			want, _ := slowEncode(f)
			holdWriting(t, g, want, api.OK)
		}
	}
}

// P7.1: the edges of numbers that a frame holds.
func TestNumbersThatMayNot(t *testing.T) {
	right := []api.Frame{
		{Kind: 1, Version: 1, Slots: 1}, {Kind: 1, Version: 1, Slots: 64},
		{Kind: 3, Status: 1}, {Kind: 3, Status: 2}, {Kind: 3, Status: 3}, {Kind: 3, Status: 1, Body: "x"},
		{Kind: 2, Limits: limits(math.MaxInt, math.MaxInt, math.MaxInt)}, {Kind: 2, Limits: limits(1<<31, 1<<31+1, 0)},
		{Kind: 4}, {Kind: 4, Id: math.MaxUint64}, {Kind: 6},
	}
	wrong := []api.Frame{
		{Kind: 1, Version: 0, Slots: 1}, {Kind: 1, Version: 2, Slots: 1}, {Kind: 1, Version: -1, Slots: 1},
		{Kind: 1, Version: 1, Slots: 0}, {Kind: 1, Version: 1, Slots: 65}, {Kind: 1, Version: 1, Slots: -1}, {Kind: 1, Version: 1, Slots: math.MinInt},
		{Kind: 3, Status: 0}, {Kind: 3, Status: 4}, {Kind: 3, Status: -1}, {Kind: 3, Status: 2, Body: "x"}, {Kind: 3, Status: 3, Body: "\x00"},
		{Kind: 2, Limits: limits(-1, 0, 0)}, {Kind: 2, Limits: limits(0, -1, 0)}, {Kind: 2, Limits: limits(0, 0, -1)},
		{Kind: 2, Limits: limits(math.MinInt, 1, 1)},
	}
	for _, f := range right {
		want, _ := slowEncode(f)
		holdWriting(t, f, want, api.OK)
	}
	for _, f := range wrong {
		holdWriting(t, f, nil, api.ErrFrame)
	}
}

// P7.1: eight Args of 4096 bytes may be; one more Arg, and one more byte, may not.
func TestArgsThatMayNot(t *testing.T) {
	long := strings.Repeat("x", 4096)
	eight := slices.Repeat([]string{long}, 8)
	want, _ := slowEncode(api.Frame{Kind: 2, Args: eight})
	holdWriting(t, api.Frame{Kind: 2, Args: eight}, want, api.OK)
	holdWriting(t, api.Frame{Kind: 2, Args: make([]string, 9)}, nil, api.ErrFrame)
	for i := range eight {
		l := slices.Clone(eight)
		l[i] += "x"
		holdWriting(t, api.Frame{Kind: 2, Args: l}, nil, api.ErrFrame)
	}
	holdWriting(t, frame.Request(1, limits(0, 0, 0), "", "", long+"x"), nil, api.ErrFrame)
}

// longest is the frame f with a Body of so many bytes that its body has as many as a frame may have.
func longest(f api.Frame) api.Frame {
	f.Body = strings.Repeat("y", api.MaxFrame-100000)
	f.Body += strings.Repeat("z", api.MaxFrame-len(slowBody(f)))
	return f
}

// P7.1, P7.3, P7.5: a body of 2^21 bytes, and of one more.
func TestLongest(t *testing.T) {
	args := slices.Repeat([]string{strings.Repeat("x", 4096)}, 8)
	for _, f := range []api.Frame{{Kind: 6}, {Kind: 3, Id: 77, Status: 1}, {Kind: 2}, {Kind: 2, Id: 1 << 40, Limits: limits(1, 1<<20, 300), Args: args}} {
		f = longest(f)
		b, e := frame.Encode(f)
		if n, f := frame.Size(f); n != api.MaxFrame+8 || f != api.OK {
			t.Errorf("Size: %d, %v", n, f)
		}
		if string(b) != string(sealed(slowBody(f)...)) || e != api.OK {
			t.Errorf("%s: %d bytes, %v", show(f), len(b), e)
		}
		if n, e := frame.Need(b); n != len(b) || e != api.OK {
			t.Errorf("Need: %d, %v", n, e)
		}
		if back, why := frame.Decode(b); !frame.Same(back, f) || why != (api.Fault{}) {
			t.Errorf("Decode: %s, %v", show(back), why)
		}
		f.Body += "z"
		holdWriting(t, f, nil, api.ErrLong)
		if back, why := frame.Decode(sealed(slowBody(f)...)); !frame.Same(back, api.Frame{}) || why != (api.Fault{Why: api.ErrLong}) {
			t.Errorf("Decode: %s, %v", show(back), why)
		}
		f.Body += strings.Repeat("z", 1<<22)
		holdWriting(t, f, nil, api.ErrLong)
	}
}

// P7.1, R2: a frame that may not be for its length and for another reason: ErrFrame.
func TestFrameAheadOfLong(t *testing.T) {
	long := strings.Repeat("x", api.MaxFrame)
	for _, f := range []api.Frame{
		{Kind: 0, Body: long}, {Kind: 7, Body: long}, {Kind: 4, Body: long}, {Kind: 5, Body: long}, {Kind: 1, Version: 1, Slots: 1, Body: long},
		{Kind: 6, Id: 1, Body: long}, {Kind: 6, Args: []string{""}, Body: long},
		{Kind: 3, Status: 2, Body: long}, {Kind: 3, Status: 0, Body: long}, {Kind: 3, Status: 1, Slots: 1, Body: long},
		{Kind: 2, Limits: limits(0, -1, 0), Body: long}, {Kind: 2, Args: make([]string, 9), Body: long},
		{Kind: 2, Args: []string{long}, Body: long}, {Kind: 2, Args: []string{long}},
		{Kind: 2, Args: slices.Repeat([]string{""}, api.MaxFrame)},
	} {
		holdWriting(t, f, nil, api.ErrFrame)
	}
}

// P7.1: frames behind one another, and the error of the first that has one.
func TestAll(t *testing.T) {
	if b, e := frame.All(); len(b) != 0 || e != api.OK {
		t.Errorf("All of none: %v, %v", b, e)
	}
	var l []api.Frame
	var want []byte
	for s, f := range golden() {
		l = append(l, f)
		want = append(want, unhex(t, s)...)
		if b, e := frame.All(l...); string(b) != string(want) || e != api.OK {
			t.Errorf("All of %d: % x, %v, not % x", len(l), b, e, want)
		}
	}
	long, wrong := frame.Note(strings.Repeat("x", api.MaxFrame)), frame.Hello(0, tool())
	holdAllError(t, api.ErrLong, frame.Bye(), long, frame.Bye())
	holdAllError(t, api.ErrFrame, frame.Bye(), frame.Bye(), wrong)
	holdAllError(t, api.ErrLong, long, wrong)
	holdAllError(t, api.ErrFrame, frame.Bye(), wrong, long)
}

func holdAllError(t *testing.T, e api.Errno, l ...api.Frame) {
	t.Helper()
	if b, got := frame.All(l...); b != nil || got != e {
		t.Errorf("%d bytes, %v, not %v", len(b), got, e)
	}
}

// spoil sets one field or two to something that may well be wrong.
func spoil(g *rand.Rand, f api.Frame) api.Frame {
	n := pick(g, -1, 0, 1, 2, 3, 4, 64, 65, math.MinInt, math.MaxInt)
	switch g.IntN(11) {
	case 0:
		f.Kind = g.IntN(9) - 1
	case 1:
		f.Id = someId(g)
	case 2:
		f.Version = n
	case 3:
		f.Slots = n
	case 4:
		f.Tool[g.IntN(32)] ^= 1
	case 5:
		f.Status = n
	case 6:
		f.Limits.Modules = n
	case 7:
		f.Limits.Fuel = n
	case 8:
		f.Limits.Diags = n
	case 9:
		f.Args = append(slices.Clone(f.Args), someText(g, 4098))
	case 10:
		f.Body = pick(g, "", "x", strings.Repeat("x", 1<<21))
	}
	return f
}

// P7.1, R2, R3: frames of all sorts, several faults at once, against the chapter's own words.
func TestWritingOfAllSorts(t *testing.T) {
	g := rand.New(rand.NewPCG(7, 1))
	met := map[api.Errno]int{}
	for range 3000 {
		f := someFrame(g)
		for range g.IntN(4) {
			f = spoil(g, f)
		}
		want, e := slowEncode(f)
		met[e]++
		holdWriting(t, f, want, e)
	}
	if met[api.OK] < 100 || met[api.ErrFrame] < 100 || met[api.ErrLong] < 10 {
		t.Errorf("too few of some sorts: %v", met)
	}
}

// P7.4: the frames that are made have just their fields, whether or not they may be.
func TestMakers(t *testing.T) {
	cases := []struct{ got, want api.Frame }{
		{frame.Hello(3, tool()), api.Frame{Kind: 1, Version: 1, Slots: 3, Tool: tool()}},
		{frame.Hello(-5, api.Digest{}), api.Frame{Kind: 1, Version: 1, Slots: -5}},
		{frame.Request(8, limits(1, 2, 3), "body", "a", "", "b"), api.Frame{Kind: 2, Id: 8, Limits: limits(1, 2, 3), Args: []string{"a", "", "b"}, Body: "body"}},
		{frame.Request(0, limits(-1, -2, -3), ""), api.Frame{Kind: 2, Limits: limits(-1, -2, -3)}},
		{frame.Request(0, limits(0, 0, 0), "", make([]string, 20)...), api.Frame{Kind: 2, Args: make([]string, 20)}},
		{frame.Response(9, 1, "body"), api.Frame{Kind: 3, Id: 9, Status: 1, Body: "body"}},
		{frame.Response(math.MaxUint64, -4, "x"), api.Frame{Kind: 3, Id: math.MaxUint64, Status: -4, Body: "x"}},
		{frame.Cancel(10), api.Frame{Kind: 4, Id: 10}},
		{frame.Bye(), api.Frame{Kind: 5}},
		{frame.Note("line\n"), api.Frame{Kind: 6, Body: "line\n"}},
		{frame.Note(""), api.Frame{Kind: 6}},
	}
	for _, c := range cases {
		// Not by Same, which is held below.
		if show(c.got) != show(c.want) {
			t.Errorf("%s, not %s", show(c.got), show(c.want))
		}
		if !frame.Same(c.got, c.want) || !frame.Same(c.want, c.got) {
			t.Errorf("%s: not the same", show(c.got))
		}
	}
}

// P7.4: one field that is another, or one text of the Args, and two frames are not the same.
func TestSame(t *testing.T) {
	full := func() api.Frame {
		return api.Frame{Kind: 1, Id: 2, Version: 3, Slots: 4, Tool: tool(), Status: 5, Limits: limits(6, 7, 8), Args: []string{"a", "b"}, Body: "c"}
	}
	if !frame.Same(full(), full()) || !frame.Same(api.Frame{}, api.Frame{}) {
		t.Error("a frame is not the same as itself")
	}
	if !frame.Same(api.Frame{Kind: 2, Args: []string{}}, api.Frame{Kind: 2}) || !frame.Same(api.Frame{Kind: 2}, api.Frame{Kind: 2, Args: make([]string, 0, 4)}) {
		t.Error("an empty list and none are the same")
	}
	for i, do := range []func(f *api.Frame){
		func(f *api.Frame) { f.Kind++ }, func(f *api.Frame) { f.Id++ }, func(f *api.Frame) { f.Version++ },
		func(f *api.Frame) { f.Slots++ }, func(f *api.Frame) { f.Tool[0]++ }, func(f *api.Frame) { f.Tool[31]++ },
		func(f *api.Frame) { f.Status++ }, func(f *api.Frame) { f.Limits.Modules++ }, func(f *api.Frame) { f.Limits.Fuel++ },
		func(f *api.Frame) { f.Limits.Diags++ }, func(f *api.Frame) { f.Args = nil }, func(f *api.Frame) { f.Args = f.Args[:1] },
		func(f *api.Frame) { f.Args = append(f.Args, "") }, func(f *api.Frame) { f.Args[0] = "" }, func(f *api.Frame) { f.Args[1] = "a" },
		func(f *api.Frame) { f.Args[0], f.Args[1] = "b", "a" }, func(f *api.Frame) { f.Args = []string{"ab"} },
		func(f *api.Frame) { f.Body = "" }, func(f *api.Frame) { f.Body = "d" },
	} {
		other := full()
		do(&other)
		if frame.Same(full(), other) || frame.Same(other, full()) {
			t.Errorf("change %d: the same", i)
		}
	}
}
