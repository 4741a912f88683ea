package wire

import "treadle/api"

// place is bytes, and how many of them were read. What it reads moves it only where there is no error, so that where it stands then is where the wrong piece begins.
type place struct {
	bytes []byte
	at    int
}

// At is how many bytes were read.
func (p *place) At() int { return p.at }

// Left is how many bytes are left.
func (p *place) Left() int { return len(p.bytes) - p.at }

func (p *place) next() (byte, api.Errno) {
	if p.Left() == 0 {
		return 0, api.ErrShort
	}
	c := p.bytes[p.at]
	p.at++
	return c, api.OK
}

func (p *place) number() (uint64, api.Errno) {
	n := uint64(0)
	for i := 0; i < p.Left(); i++ {
		c := p.bytes[p.at+i]
		if i == 9 && c > 1 {
			return 0, api.ErrWide
		}
		if i > 0 && c == 0 {
			return 0, api.ErrForm
		}
		n |= uint64(c&127) << (7 * i)
		if c < 128 {
			p.at += i + 1
			return n, api.OK
		}
	}
	return 0, api.ErrShort
}

// numberUpTo tells tooMuch of a number above most, which is not below 0.
func (p *place) numberUpTo(most int, tooMuch api.Errno) (int, api.Errno) {
	begin := p.at
	n, e := p.number()
	if e == api.OK && n > uint64(most) {
		p.at = begin
		e = tooMuch
	}
	if e != api.OK {
		return 0, e
	}
	return int(n), api.OK
}

func (p *place) truth() (bool, api.Errno) {
	if p.Left() == 0 {
		return false, api.ErrShort
	}
	if p.bytes[p.at] > 1 {
		return false, api.ErrForm
	}
	p.at++
	return p.bytes[p.at-1] == 1, api.OK
}

func (p *place) text(most int) (string, api.Errno) {
	begin := p.at
	n, e := p.numberUpTo(most, api.ErrLong)
	if e != api.OK {
		return "", e
	}
	if n > p.Left() {
		p.at = begin
		return "", api.ErrShort
	}
	p.at += n
	return string(p.bytes[p.at-n : p.at]), api.OK
}

// list stays where the wrong piece begins, behind those ahead of it. It takes no room ahead for as many texts as are told: there may be far fewer.
func (p *place) list(most, each int) ([]string, api.Errno) {
	n, e := p.numberUpTo(most, api.ErrCount)
	if e != api.OK {
		return nil, e
	}
	var l []string
	for range n {
		s, e := p.text(each)
		if e != api.OK {
			return nil, e
		}
		l = append(l, s)
	}
	return l, api.OK
}

func (p *place) raw(n int) ([]byte, api.Errno) {
	if n > p.Left() {
		return nil, api.ErrShort
	}
	p.at += n
	return append([]byte(nil), p.bytes[p.at-n:p.at]...), api.OK
}
