package wire

import "treadle/api"

// walk is a place that goes on until its first fault.
type walk struct {
	place
	fault api.Fault
}

func (w *walk) over() bool { return w.fault.Why != api.OK }

// fail keeps the first error: where the place stands, the wrong piece begins.
func (w *walk) fail(e api.Errno) {
	if !w.over() && e != api.OK {
		w.fault = api.Fault{Why: e, At: w.At()}
	}
}

// mayRead tells whether a call with these bounds reads at all.
func (w *walk) mayRead(bounds ...int) bool {
	for _, n := range bounds {
		if n < 0 {
			w.fail(api.ErrArg)
		}
	}
	return !w.over()
}

// Reader reads bytes from the front on, and keeps its first error.
type Reader struct {
	walk
	made bool
}

// NewReader is a reader at the first byte of b as it is now.
func NewReader(b []byte) *Reader {
	r := &Reader{made: true}
	r.bytes = append([]byte(nil), b...)
	return r
}

// own is the reader's walk. For a reader that NewReader did not give it is one that is over and is thrown away: so none of the calls has to ask, and no promoted method is called of nil, where it would panic.
func (r *Reader) own() *walk {
	if r == nil || !r.made {
		return &walk{fault: api.Fault{Why: api.ErrNil}}
	}
	return &r.walk
}

// Byte reads a byte.
func (r *Reader) Byte() byte {
	w := r.own()
	if !w.mayRead() {
		return 0
	}
	c, e := w.next()
	w.fail(e)
	return c
}

// Uint reads a short number.
func (r *Reader) Uint() uint64 {
	w := r.own()
	if !w.mayRead() {
		return 0
	}
	n, e := w.number()
	w.fail(e)
	return n
}

// Int reads a number with a sign.
func (r *Reader) Int() int64 {
	return unfolded(r.Uint())
}

// Count reads a short number of at most so much.
func (r *Reader) Count(most int) int {
	w := r.own()
	if !w.mayRead(most) {
		return 0
	}
	n, e := w.numberUpTo(most, api.ErrCount)
	w.fail(e)
	return n
}

// Bool reads a truth.
func (r *Reader) Bool() bool {
	w := r.own()
	if !w.mayRead() {
		return false
	}
	x, e := w.truth()
	w.fail(e)
	return x
}

// Text reads a text of at most so many bytes.
func (r *Reader) Text(most int) string {
	w := r.own()
	if !w.mayRead(most) {
		return ""
	}
	s, e := w.text(most)
	w.fail(e)
	return s
}

// List reads texts: at most so many, each of at most so many bytes.
func (r *Reader) List(most, each int) []string {
	w := r.own()
	if !w.mayRead(most, each) {
		return nil
	}
	begin := w.at
	l, e := w.list(most, each)
	w.fail(e)
	if w.over() {
		w.at = begin
	}
	return l
}

// Raw reads so many bytes.
func (r *Reader) Raw(n int) []byte {
	w := r.own()
	if !w.mayRead(n) {
		return nil
	}
	b, e := w.raw(n)
	w.fail(e)
	return b
}

// Fail gives a reader an error where it stands, if it has none.
func (r *Reader) Fail(e api.Errno) { r.own().fail(e) }

// At is how many bytes were read.
func (r *Reader) At() int { return r.own().At() }

// Left is how many bytes are left.
func (r *Reader) Left() int { return r.own().Left() }

// Fault is the first error, and where it was met.
func (r *Reader) Fault() api.Fault { return r.own().fault }

// End is the first error; ErrMore, if there is none and bytes are left.
func (r *Reader) End() api.Fault {
	w := r.own()
	if w.Left() > 0 {
		w.fail(api.ErrMore)
	}
	return w.fault
}
