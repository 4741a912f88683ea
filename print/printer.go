package print

import (
	"strings"

	"treadle/api"
)

const blank = " "

// printer writes a form, token by token. What stands between them is the one thing in which the two forms part.
type printer struct {
	strings.Builder
	short  bool // the short form is written
	wordy  bool // the token that was written last is a word, a key or a number
	blocks int  // how many are open
	levels int  // how many are open
	most   int  // how many were open at one time
}

// told is what was written, if it may be a source.
func (p *printer) told() (string, api.Errno) {
	switch {
	case p.most > api.MaxNest:
		return "", api.ErrNested
	case p.Len() > api.MaxSource:
		return "", api.ErrLong
	}
	return p.String(), api.OK
}

// full tells whether what was written is no source already. There is no bound to how long a tree's text would be: nothing more is written then.
func (p *printer) full() bool { return p.Len() > api.MaxSource }

func (p *printer) write(s string) {
	if !p.full() {
		p.WriteString(s)
	}
}

// put writes tokens, and blanks between them, which the laid-out form has where they are told, the short one where two tokens would be one.
func (p *printer) put(parts ...string) {
	for _, s := range parts {
		switch {
		case s != blank:
			p.token(s)
		case !p.short:
			p.write(blank)
		}
	}
}

func (p *printer) token(s string) {
	ahead := p.wordy
	p.wordy = wordy(s)
	if p.short && ahead && p.wordy {
		p.write(blank)
	}
	p.write(s)
}

// wordy tells whether a token is a word, a key or a number: its first byte tells.
func wordy(token string) bool {
	c := token[0]
	return 'A' <= c && c <= 'Z' || 'a' <= c && c <= 'z' || c == '_' || '0' <= c && c <= '9'
}

// open writes a sign that opens a level.
func (p *printer) open(sign string) {
	p.levels++
	p.most = max(p.most, p.levels)
	p.put(sign)
}

// shut writes the sign that closes a level.
func (p *printer) shut(sign string) {
	p.levels--
	p.put(sign)
}

// line ends a line, and begins the next one as the blocks that are open ask for.
func (p *printer) line() {
	if !p.short && !p.full() {
		p.write("\n" + strings.Repeat("\t", p.blocks))
	}
}

// bracketed writes items in brackets, with commas between.
func bracketed[T any](p *printer, items []T, item func(*printer, T)) {
	p.open("(")
	for i, x := range items {
		if i > 0 {
			p.put(",", blank)
		}
		item(p, x)
	}
	p.shut(")")
}
