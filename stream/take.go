package stream

import (
	"treadle/api"
	"treadle/frame"
)

// rest is the bytes that came and are no whole frame yet.
type rest struct{ held []byte }

func (r *rest) size() int { return len(r.held) }

func (r *rest) copied() []byte { return append([]byte(nil), r.held...) }

func (r *rest) put(b []byte) { r.held = append(r.held, b...) }

// drop keeps no room: behind a long frame many short ones may come.
func (r *rest) drop() { r.held = nil }

// lack is how many bytes must come at least until a frame can be whole, of a rest in which nothing is wrong.
func (r *rest) lack() int {
	need, _ := frame.Need(r.held)
	if need == 0 {
		return 1
	}
	return need - len(r.held)
}

// counts is how many bytes came, and how many frames were whole.
type counts struct{ came, whole int }

func (c *counts) both() (bytes, frames int) { return c.came, c.whole }

func (d *Decoder) made() bool { return d != nil && d.longest > 0 }

func (d *Decoder) poisoned() bool { return d.poison.Why != api.OK }

// refusal is why nothing is taken at all.
func (d *Decoder) refusal() api.Fault {
	switch {
	case !d.made():
		return api.Fault{Why: api.ErrNil}
	case d.poisoned():
		return api.Fault{Why: api.ErrPoison, At: d.came}
	}
	return api.Fault{}
}

// takeUntil takes bytes until n frames are whole, or it is poisoned: these frames, and how many bytes.
func (d *Decoder) takeUntil(n int, b []byte) ([]api.Frame, int) {
	var l []api.Frame
	at := 0
	for at < len(b) && len(l) < n && !d.poisoned() {
		to := at + min(d.lack(), len(b)-at)
		if f, ok := d.take(b[at:to]); ok {
			l = append(l, f)
		}
		at = to
	}
	return l, at
}

// take takes at most as many bytes as lack, so that none but the last can end a frame or be wrong: that is as good as to take them one by one.
func (d *Decoder) take(b []byte) (api.Frame, bool) {
	begin := d.came - d.size()
	d.put(b)
	d.came += len(b)
	need, e := frame.Need(d.held)
	if need > d.longest {
		e = api.ErrLong
	}
	if e != api.OK {
		d.poison = api.Fault{Why: e, At: begin}
		return api.Frame{}, false
	}
	if need == 0 || d.size() < need {
		return api.Frame{}, false
	}
	return d.open(begin)
}

// open makes a frame of a rest that is as long as it says, and begins at that place.
func (d *Decoder) open(begin int) (api.Frame, bool) {
	f, fault := frame.Decode(d.held)
	if fault.Why != api.OK {
		d.poison = api.Fault{Why: fault.Why, At: begin + fault.At}
		return api.Frame{}, false
	}
	d.drop()
	d.whole++
	return f, true
}
