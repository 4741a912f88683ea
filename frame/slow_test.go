package frame_test

import (
	"fmt"
	"math"
	"math/rand/v2"
	"strings"

	"treadle/api"
)

// What stands here says the chapter's words once more, slowly and without the layers below.

func slowNumber(n uint64) []byte {
	if n < 128 {
		return []byte{byte(n)}
	}
	return append([]byte{byte(n%128) + 128}, slowNumber(n/128)...)
}

func slowText(s string) []byte { return append(slowNumber(uint64(len(s))), s...) }

func slowList(l []string) []byte {
	b := slowNumber(uint64(len(l)))
	for _, s := range l {
		b = append(b, slowText(s)...)
	}
	return b
}

func joined(parts ...[]byte) []byte {
	var b []byte
	for _, p := range parts {
		b = append(b, p...)
	}
	return b
}

// slowSum goes bit by bit.
func slowSum(b []byte) []byte {
	c := uint32(math.MaxUint32)
	for _, x := range b {
		c ^= uint32(x)
		for range 8 {
			low := c & 1
			c >>= 1
			if low == 1 {
				c ^= 0x82f63b78
			}
		}
	}
	c = ^c
	return []byte{byte(c), byte(c >> 8), byte(c >> 16), byte(c >> 24)}
}

// sealed is a body with its length ahead and its sum behind.
func sealed(body ...byte) []byte {
	b := joined(slowNumber(uint64(len(body))), body)
	return append(b, slowSum(b)...)
}

// fieldsOf are the fields of each kind, in the order in which they are laid down.
func fieldsOf(kind int) (string, bool) {
	s, ok := map[int]string{
		1: "Version Slots Tool", 2: "Id Limits Args Body", 3: "Id Status Body", 4: "Id", 5: "", 6: "Body",
	}[kind]
	return s, ok
}

// filled are the fields of f that are not zero.
func filled(f api.Frame) []string {
	var l []string
	for name, is := range map[string]bool{
		"Id": f.Id != 0, "Version": f.Version != 0, "Slots": f.Slots != 0, "Tool": f.Tool != api.Digest{},
		"Status": f.Status != 0, "Limits": f.Limits != api.Limits{}, "Args": len(f.Args) > 0, "Body": f.Body != "",
	} {
		if is {
			l = append(l, name)
		}
	}
	return l
}

// wrongFields tells whether f may not be for another reason than its length.
func wrongFields(f api.Frame) bool {
	has, ok := fieldsOf(f.Kind)
	for _, name := range filled(f) {
		if !strings.Contains(has, name) {
			return true
		}
	}
	wrong := !ok
	wrong = wrong || f.Kind == 1 && (f.Version != 1 || f.Slots < 1 || f.Slots > 64)
	wrong = wrong || f.Limits.Modules < 0 || f.Limits.Fuel < 0 || f.Limits.Diags < 0 || len(f.Args) > 8
	for _, s := range f.Args {
		wrong = wrong || len(s) > 4096
	}
	return wrong || f.Kind == 3 && (f.Status < 1 || f.Status > 3 || f.Status > 1 && f.Body != "")
}

// slowBody is the body of a frame that may be, but for its length.
func slowBody(f api.Frame) []byte {
	number := func(n int) []byte { return slowNumber(uint64(n)) }
	b := number(f.Kind)
	has, _ := fieldsOf(f.Kind)
	for _, name := range strings.Fields(has) {
		switch name {
		case "Version":
			b = append(b, number(f.Version)...)
		case "Slots":
			b = append(b, number(f.Slots)...)
		case "Tool":
			b = append(b, f.Tool[:]...)
		case "Id":
			b = append(b, slowNumber(f.Id)...)
		case "Limits":
			b = joined(b, number(f.Limits.Modules), number(f.Limits.Fuel), number(f.Limits.Diags))
		case "Args":
			b = append(b, slowList(f.Args)...)
		case "Status":
			b = append(b, number(f.Status)...)
		case "Body":
			b = append(b, slowText(f.Body)...)
		}
	}
	return b
}

func slowEncode(f api.Frame) ([]byte, api.Errno) {
	if wrongFields(f) {
		return nil, api.ErrFrame
	}
	body := slowBody(f)
	if len(body) > 2097152 {
		return nil, api.ErrLong
	}
	return sealed(body...), api.OK
}

// cursor goes over bytes till the first fault.
type cursor struct {
	b     []byte
	at    int
	fault api.Fault
}

func (c *cursor) fail(e api.Errno, at int) {
	if c.fault.Why == api.OK {
		c.fault = api.Fault{Why: e, At: at}
	}
}

// number is the number that stands at a place, and how many bytes it has.
func number(b []byte) (uint64, int, api.Errno) {
	n := uint64(0)
	for i, x := range b {
		if i == 9 && x > 1 {
			return 0, 0, api.ErrWide
		}
		if x == 0 && i > 0 {
			return 0, 0, api.ErrForm
		}
		n += uint64(x%128) << (7 * i)
		if x < 128 {
			return n, i + 1, api.OK
		}
	}
	return 0, 0, api.ErrShort
}

// upTo reads a number, and tells above of one that is greater than most.
func (c *cursor) upTo(most uint64, above api.Errno) uint64 {
	if c.fault.Why != api.OK {
		return 0
	}
	n, long, e := number(c.b[c.at:])
	if e == api.OK && n > most {
		e = above
	}
	if e != api.OK {
		c.fail(e, c.at)
		return 0
	}
	c.at += long
	return n
}

// some reads a number that may not be 0.
func (c *cursor) some(most uint64) int {
	at := c.at
	n := c.upTo(most, api.ErrCount)
	if n == 0 {
		c.fail(api.ErrFrame, at)
	}
	return int(n)
}

func (c *cursor) raw(n, from int) string {
	if c.fault.Why == api.OK && len(c.b)-c.at < n {
		c.fail(api.ErrShort, from)
	}
	if c.fault.Why != api.OK {
		return ""
	}
	c.at += n
	return string(c.b[c.at-n : c.at])
}

func (c *cursor) text(most uint64) string {
	from := c.at
	n := c.upTo(most, api.ErrLong)
	return c.raw(int(n), from)
}

func (c *cursor) list() []string {
	n := c.upTo(8, api.ErrCount)
	var l []string
	for range n {
		l = append(l, c.text(4096))
	}
	return l
}

func (c *cursor) field(name string, f *api.Frame) {
	switch name {
	case "Version":
		f.Version = c.some(1)
	case "Slots":
		f.Slots = c.some(64)
	case "Tool":
		copy(f.Tool[:], c.raw(32, c.at))
	case "Id":
		f.Id = c.upTo(math.MaxUint64, api.ErrCount)
	case "Limits":
		f.Limits.Modules = int(c.upTo(2147483648, api.ErrCount))
		f.Limits.Fuel = int(c.upTo(2147483648, api.ErrCount))
		f.Limits.Diags = int(c.upTo(2147483648, api.ErrCount))
	case "Args":
		f.Args = c.list()
	case "Status":
		f.Status = c.some(3)
	case "Body":
		f.Body = c.text(2097152)
	}
}

func slowNeed(b []byte) (int, api.Errno) {
	n, long, e := number(b)
	switch {
	case e == api.ErrShort:
		return 0, api.OK
	case e != api.OK:
		return 0, e
	case n > 2097152:
		return 0, api.ErrLong
	case n == 0:
		return 0, api.ErrFrame
	}
	return long + int(n) + 4, api.OK
}

func slowDecode(b []byte) (api.Frame, api.Fault) {
	n, e := slowNeed(b)
	switch {
	case n == 0 && e == api.OK:
		return api.Frame{}, api.Fault{Why: api.ErrShort, At: len(b)}
	case e != api.OK:
		return api.Frame{}, api.Fault{Why: e}
	case len(b) < n:
		return api.Frame{}, api.Fault{Why: api.ErrShort, At: len(b)}
	case len(b) > n:
		return api.Frame{}, api.Fault{Why: api.ErrMore, At: n}
	case string(slowSum(b[:n-4])) != string(b[n-4:]):
		return api.Frame{}, api.Fault{Why: api.ErrSum, At: n - 4}
	}
	_, begin, _ := number(b)
	c := &cursor{b: b[:n-4], at: begin}
	f := api.Frame{Kind: c.some(6)}
	has, _ := fieldsOf(f.Kind)
	for _, name := range strings.Fields(has) {
		c.field(name, &f)
	}
	if c.at < n-4 {
		c.fail(api.ErrMore, c.at)
	}
	if f.Status > 1 && f.Body != "" {
		c.fail(api.ErrFrame, begin)
	}
	if c.fault.Why != api.OK {
		return api.Frame{}, c.fault
	}
	return f, api.Fault{}
}

// show is a frame in few letters, where its texts are long.
func show(v any) string {
	s := fmt.Sprintf("%+q", fmt.Sprintf("%+v", v))
	if len(s) > 300 {
		return s[:300] + ".."
	}
	return s
}

func pick[T any](g *rand.Rand, l ...T) T { return l[g.IntN(len(l))] }

func someText(g *rand.Rand, most int) string {
	b := make([]byte, pick(g, 0, 1, g.IntN(5), g.IntN(200), g.IntN(most+1), most))
	for i := range b {
		b[i] = byte(g.Uint32())
	}
	return string(b)
}

func someId(g *rand.Rand) uint64 { return g.Uint64() >> g.IntN(65) }

func someLimit(g *rand.Rand) int {
	return pick(g, 0, 1, 64, 127, 128, 1<<20, 1<<31-1, 1<<31, g.IntN(1<<31))
}

func someArgs(g *rand.Rand) []string {
	l := make([]string, pick(g, 0, 0, 1, 2, 8, g.IntN(9)))
	for i := range l {
		l[i] = someText(g, pick(g, 10, 10, 4096))
	}
	return l
}

// someFrame may be, and comes back.
func someFrame(g *rand.Rand) api.Frame {
	f := api.Frame{Kind: 1 + g.IntN(6)}
	switch f.Kind {
	case 1:
		f.Version, f.Slots = 1, pick(g, 1, 64, 1+g.IntN(64))
		for i := range f.Tool {
			f.Tool[i] = byte(g.Uint32() >> g.IntN(32))
		}
	case 2:
		f.Id, f.Args, f.Body = someId(g), someArgs(g), someText(g, 1000)
		f.Limits = api.Limits{Modules: someLimit(g), Fuel: someLimit(g), Diags: someLimit(g)}
	case 3:
		f.Id, f.Status = someId(g), 1+g.IntN(3)
		if f.Status == 1 {
			f.Body = someText(g, 1000)
		}
	case 4:
		f.Id = someId(g)
	case 6:
		f.Body = someText(g, 1000)
	}
	return f
}
