package parse

import (
	"slices"
	"strings"

	"treadle/api"
	"treadle/lex"
)

// parser looks at a source's tokens, one behind the other. It goes on to the next one only when nothing is wrong with the one it looks at, so that the first wrong one is met first.
type parser struct {
	src    string
	token  api.Token // the one that is looked at
	fuel   int       // all that was given
	used   int       // how much of it the tokens took so far
	levels int       // how many are open
}

// wrong is what the parser panics with: what is wrong with a token.
type wrong api.Fault

// read is the tree of a source that has a form from its first token to its end, or the fault of the first wrong one; and the fuel that was used up to there.
func read[T any](src string, fuel int, form func(*parser) T) (tree T, used int, f api.Fault) {
	p := &parser{src: src, fuel: fuel}
	defer func() {
		if v := recover(); v != nil {
			var none T
			tree, used, f = none, p.used, api.Fault(v.(wrong))
		}
	}()
	p.next() // of a text that is no source, this gives up
	tree = form(p)
	if p.token.Kind != api.TokenEnd {
		p.refuse()
	}
	return tree, p.used, api.Fault{}
}

// next looks at the token behind this one.
func (p *parser) next() {
	t, e := lex.Next(p.src, p.token.To)
	p.token = t
	switch {
	case e != api.OK:
		p.giveUp(e)
	case t.Kind == api.TokenEnd:
		return
	case p.fuel <= p.used:
		p.giveUp(api.ErrFuel)
	}
	p.used++
}

// giveUp leaves all that reads, up to read, because of the token that is looked at.
func (p *parser) giveUp(why api.Errno) { panic(wrong{Why: why, At: p.token.From}) }

// refuse gives up because no source goes on with this token.
func (p *parser) refuse() { p.giveUp(api.ErrSyntax) }

func (p *parser) text() string { return p.src[p.token.From:p.token.To] }

// is tells whether the token is one of some keys and signs, whose texts no token of another kind has.
func (p *parser) is(texts ...string) bool { return slices.Contains(texts, p.text()) }

// skip goes on behind a key or a sign, if it is there.
func (p *parser) skip(text string) bool {
	there := p.is(text)
	if there {
		p.next()
	}
	return there
}

// take goes on behind a key or a sign, which must be there, and tells where it begins.
func (p *parser) take(text string) int {
	at := p.token.From
	if !p.skip(text) {
		p.refuse()
	}
	return at
}

// open takes a key or a sign that opens a level.
func (p *parser) open(text string) int {
	if !p.is(text) {
		p.refuse()
	}
	if p.levels == api.MaxNest {
		p.giveUp(api.ErrNested)
	}
	p.levels++
	return p.take(text)
}

// shut takes the sign that closes a level.
func (p *parser) shut(text string) {
	p.take(text)
	p.levels--
}

// word takes a word. It is copied, since a tree shares no memory with its source.
func (p *parser) word() string {
	if p.token.Kind != api.TokenWord {
		p.refuse()
	}
	s := strings.Clone(p.text())
	p.next()
	return s
}

// bracketed takes any number of items in brackets, with commas between.
func bracketed[T any](p *parser, item func(*parser) T) []T {
	var l []T
	p.open("(")
	for more := !p.is(")"); more; more = p.skip(",") {
		l = append(l, item(p))
	}
	p.shut(")")
	return l
}
