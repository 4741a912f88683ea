package scan

import (
	"strings"

	"treadle/api"
	"treadle/lex"
)

const (
	keyInclude = "include"
	keyAs      = "as"
	signLast   = ";"
)

// reader takes a source's tokens, one behind the other.
type reader struct {
	src string
	at  int // right behind the token that was taken last
}

// atInclude tells whether the next token is one with which an include begins; one that is none ends the includes as any other does.
func (r *reader) atInclude() bool {
	t, e := lex.Next(r.src, r.at)
	return e == api.OK && r.text(t) == keyInclude
}

// include takes an include, or gives up.
func (r *reader) include() api.Include {
	first := r.take(keyInclude)
	written := r.takeAny(api.TokenText)
	r.take(keyAs)
	name := r.takeAny(api.TokenWord)
	r.take(signLast)
	value, _ := lex.Text(r.text(written))
	return api.Include{Path: value, Name: strings.Clone(r.text(name)), At: first.From}
}

// take takes the next token, which must have a text; a key's, or a sign's, no token of another kind has.
func (r *reader) take(text string) api.Token {
	t := r.next()
	if r.text(t) != text {
		giveUp(api.ErrInclude, t.From)
	}
	return t
}

// takeAny takes the next token, which must be of a kind, whatever its text.
func (r *reader) takeAny(kind api.TokenKind) api.Token {
	t := r.next()
	if t.Kind != kind {
		giveUp(api.ErrInclude, t.From)
	}
	return t
}

func (r *reader) next() api.Token {
	t, e := lex.Next(r.src, r.at)
	if e != api.OK {
		giveUp(e, t.From)
	}
	r.at = t.To
	return t
}

func (r *reader) text(t api.Token) string { return r.src[t.From:t.To] }

// giveUp leaves all that reads, up to the face, where the fault is recovered.
func giveUp(why api.Errno, at int) { panic(api.Fault{Why: why, At: at}) }

// end is the byte right behind the last of a text's own includes. That one is taken once more, and can't be given up: it was taken before.
func end(text string, own []api.Include) int {
	if len(own) == 0 {
		return 0
	}
	r := reader{src: text, at: own[len(own)-1].At}
	r.include()
	return r.at
}
