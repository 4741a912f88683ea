package frame

import (
	"treadle/api"
	"treadle/crc"
	"treadle/wire"
)

// longestNumber is how many bytes a short number has at most: Need looks at no more.
const longestNumber = 10

// Need is how many bytes the frame has with which bytes begin; 0: more bytes must come to tell it.
func Need(b []byte) (int, api.Errno) {
	r := wire.NewReader(b[:min(len(b), longestNumber)])
	body := r.Uint()
	switch e := r.Fault().Why; {
	case e == api.ErrShort:
		return 0, api.OK
	case e != api.OK:
		return 0, e
	case body > api.MaxFrame:
		return 0, api.ErrLong
	case body == 0:
		return 0, api.ErrFrame
	}
	return r.At() + int(body) + sumBytes, api.OK
}

// Decode is the frame of bytes.
func Decode(b []byte) (api.Frame, api.Fault) {
	inner, fault := unseal(b)
	if fault.Why != api.OK {
		return api.Frame{}, fault
	}
	return readFrame(inner)
}

// unseal is b without its sum, if it is as long as it says, and the sum is right. The length stays ahead, so that the places in it are those in b.
func unseal(b []byte) ([]byte, api.Fault) {
	n, e := Need(b)
	switch {
	case e != api.OK:
		return nil, api.Fault{Why: e}
	case n == 0 || len(b) < n:
		return nil, api.Fault{Why: api.ErrShort, At: len(b)}
	case len(b) > n:
		return nil, api.Fault{Why: api.ErrMore, At: n}
	}
	inner, e := crc.Open(b)
	if e != api.OK {
		return nil, api.Fault{Why: e, At: n - sumBytes}
	}
	return inner, api.Fault{}
}

// readFrame reads a length, which is taken as right, and the body behind it.
func readFrame(b []byte) (api.Frame, api.Fault) {
	r := &reader{Reader: wire.NewReader(b)}
	r.Uint()
	begin := r.At()
	f := api.Frame{Kind: r.some(api.FrameNote)}
	k, ok := kindOf(f.Kind)
	if !ok {
		return api.Frame{}, r.end()
	}
	f = k.read(r, f)
	fault := r.end()
	if fault.Why == api.OK && !k.may(f) {
		fault = api.Fault{Why: api.ErrFrame, At: begin}
	}
	if fault.Why != api.OK {
		return api.Frame{}, fault
	}
	return f, api.Fault{}
}

// reader is layer 1's, which also refuses numbers that are 0.
type reader struct {
	*wire.Reader
	nought api.Fault
}

// some is a number from 1 to most. The fault of a 0 is kept here, since Fail would tell the place behind it.
func (r *reader) some(most int) int {
	at := r.At()
	n := r.Count(most)
	if n == 0 && r.Fault().Why == api.OK {
		r.nought = api.Fault{Why: api.ErrFrame, At: at}
		r.Fail(api.ErrFrame)
	}
	return n
}

// end is the first fault; if there is none, the one of what is left.
func (r *reader) end() api.Fault {
	if r.nought.Why != api.OK {
		return r.nought
	}
	return r.End()
}
