package duct

import (
	"treadle/api"
)

// Pair is two ducts, one each way.
type Pair struct {
	In, Out *Duct
}

// NewPair is two empty ducts.
func NewPair(room int) (*Pair, api.Errno) {
	in, e := New(room)
	if e != api.OK {
		return nil, e
	}
	out, _ := New(room)
	return &Pair{In: in, Out: out}, api.OK
}

// Shut shuts both.
func (p *Pair) Shut() api.Errno {
	if p == nil || !p.In.made() || !p.Out.made() {
		return api.ErrNil
	}
	in, out := p.In.Shut(), p.Out.Shut()
	if in == api.ErrShut && out == api.ErrShut {
		return api.ErrShut
	}
	return api.OK
}
