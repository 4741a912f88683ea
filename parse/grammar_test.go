package parse_test

import (
	"math/rand/v2"
	"regexp"
	"slices"

	"treadle/api"
	"treadle/lex"
)

// grammarText is the chapter's grammar, word for word, but that its bracket on If is a line of its own.
const grammarText = `
Module   = { Include } { ["export"] (Const | Func) } .
Include  = "include" text "as" word ";" .
Const    = "const" word "=" Expr ";" .
Func     = "func" word "(" [ Param { "," Param } ] ")" [ ":" Type ] Block .
Param    = word ":" Type .
Type     = "int" | "bool" | "text" .
Block    = "{" { Stmt } "}" .
Stmt     = "var" word "=" Expr ";"
         | If
         | "while" Expr Block
         | "return" [ Expr ] ";"
         | "print" Expr ";"
         | word "=" Expr ";"
         | word [ "." word ] Args ";" .
If       = "if" Expr Block [ "else" ( Block | If ) ] .
Args     = "(" [ Expr { "," Expr } ] ")" .
Expr     = And { "||" And } .
And      = Compare { "&&" Compare } .
Compare  = Sum [ ( "==" | "!=" | "<" | "<=" | ">" | ">=" ) Sum ] .
Sum      = Product { ( "+" | "-" | "++" ) Product } .
Product  = Unary { ( "*" | "/" | "%" ) Unary } .
Unary    = ( "-" | "!" | "#" ) Unary | Primary .
Primary  = number | text | "true" | "false" | "(" Expr ")" | word [ "." word ] [ Args ] .
`

// node is a piece of the grammar: what it is, a token's or a rule's text, and its parts.
type node struct {
	what  byte // 't' a key or a sign, 'k' a kind of token, 'r' a rule, 's' parts in a row, 'a' one of the parts, 'o' the part or nothing, 'm' the part as often as one likes
	text  string
	parts []*node
}

// grammar is its rules, each with the least number of rules within one another that lead to tokens.
type grammar struct {
	rules  map[string]*node
	height map[string]int
}

var theGrammar = newGrammar(grammarText)

func newGrammar(text string) grammar {
	g := grammar{map[string]*node{}, map[string]int{}}
	l := regexp.MustCompile(`"[^"]*"|[A-Za-z]+|[^ \n]`).FindAllString(text, -1)
	for len(l) > 0 {
		name := l[0]
		g.rules[name], l = alternatives(l[2:])
		l = l[1:]
	}
	for range g.rules {
		for name, n := range g.rules {
			if h := g.heightOf(n); h < 1000 {
				g.height[name] = h + 1
			}
		}
	}
	return g
}

func alternatives(l []string) (*node, []string) {
	n := &node{what: 'a'}
	for {
		row := &node{what: 's'}
		for len(l) > 0 && !slices.Contains([]string{"|", ".", ")", "]", "}"}, l[0]) {
			var part *node
			part, l = factor(l)
			row.parts = append(row.parts, part)
		}
		n.parts = append(n.parts, row)
		if l[0] != "|" {
			return n, l
		}
		l = l[1:]
	}
}

func factor(l []string) (*node, []string) {
	switch first := l[0]; {
	case first == "(" || first == "[" || first == "{":
		n, rest := alternatives(l[1:])
		switch first {
		case "[":
			n = &node{what: 'o', parts: []*node{n}}
		case "{":
			n = &node{what: 'm', parts: []*node{n}}
		}
		return n, rest[1:]
	case first[0] == '"':
		return &node{what: 't', text: first[1 : len(first)-1]}, l[1:]
	case first == "word" || first == "number" || first == "text":
		return &node{what: 'k', text: first}, l[1:]
	default:
		return &node{what: 'r', text: first}, l[1:]
	}
}

func (g grammar) heightOf(n *node) int {
	switch n.what {
	case 'r':
		if h, ok := g.height[n.text]; ok {
			return h
		}
		return 1000
	case 's':
		h := 0
		for _, p := range n.parts {
			h = max(h, g.heightOf(p))
		}
		return h
	case 'a':
		h := 1000
		for _, p := range n.parts {
			h = min(h, g.heightOf(p))
		}
		return h
	}
	return 0
}

// todo is a row of pieces that must still come.
type todo struct {
	first *node
	rest  *todo
}

func (g grammar) start(rule string) []*todo {
	return []*todo{{first: &node{what: 'r', text: rule}}}
}

// step is all that may still come behind one more token; nothing: no text of the grammar begins so.
func (g grammar) step(all []*todo, kind api.TokenKind, text string) []*todo {
	var behind []*todo
	for _, x := range all {
		g.expand(x, func(terminal *node, rest *todo) {
			if terminal != nil && fitsTerminal(terminal, kind, text) {
				behind = append(behind, rest)
			}
		})
	}
	return behind
}

// ends tells whether nothing more need come.
func (g grammar) ends(all []*todo) bool {
	end := false
	for _, x := range all {
		g.expand(x, func(terminal *node, _ *todo) { end = end || terminal == nil })
	}
	return end
}

// expand tells each token with which x may begin, and what comes behind it; nil: x may be over.
func (g grammar) expand(x *todo, tell func(terminal *node, rest *todo)) {
	if x == nil {
		tell(nil, nil)
		return
	}
	n := x.first
	switch n.what {
	case 'r':
		g.expand(&todo{g.rules[n.text], x.rest}, tell)
	case 's':
		rest := x.rest
		for _, p := range slices.Backward(n.parts) {
			rest = &todo{p, rest}
		}
		g.expand(rest, tell)
	case 'a':
		for _, p := range n.parts {
			g.expand(&todo{p, x.rest}, tell)
		}
	case 'o':
		g.expand(&todo{n.parts[0], x.rest}, tell)
		g.expand(x.rest, tell)
	case 'm':
		g.expand(&todo{n.parts[0], x}, tell)
		g.expand(x.rest, tell)
	default:
		tell(n, x.rest)
	}
}

func fitsTerminal(n *node, kind api.TokenKind, text string) bool {
	if n.what == 't' {
		return (kind == api.TokenKey || kind == api.TokenSign) && text == n.text
	}
	return kind == map[string]api.TokenKind{"word": api.TokenWord, "number": api.TokenNumber, "text": api.TokenText}[n.text]
}

// levels are those that are open, as the chapter has them.
type levels struct {
	open    []string
	operand bool // the last token could end an operand
	word    bool // it is a word
}

// with is how many are open with one more token of a source that is right so far.
func (l *levels) with(kind api.TokenKind, s string) int {
	if l.operand && !(l.word && (s == "(" || s == ".")) {
		for len(l.open) > 0 && l.open[len(l.open)-1] == "operator" {
			l.open = l.open[:len(l.open)-1]
		}
	}
	switch {
	case s == "(" || s == "{":
		l.open = append(l.open, s)
	case s == ")" || s == "}":
		l.open = l.open[:len(l.open)-1]
	case s == "!" || s == "#" || s == "-" && !l.operand:
		l.open = append(l.open, "operator")
	}
	l.word = kind == api.TokenWord
	l.operand = l.word || kind == api.TokenNumber || kind == api.TokenText || s == "true" || s == "false" || s == ")"
	return len(l.open)
}

// slowFault is G1, but for the tree: token by token, what is wrong with one; least is G2's fuel, if fuel is enough.
func slowFault(rule, src string, fuel int) (f api.Fault, least int) {
	if len(src) > 65536 {
		return api.Fault{Why: api.ErrLong}, 0
	}
	all, open := theGrammar.start(rule), levels{}
	for at, ahead := 0, 0; ; ahead++ {
		t, e := lex.Next(src, at)
		if e != api.OK {
			return api.Fault{Why: e, At: t.From}, ahead
		}
		if t.Kind == api.TokenEnd {
			if !theGrammar.ends(all) {
				return api.Fault{Why: api.ErrSyntax, At: t.From}, ahead
			}
			return api.Fault{}, ahead
		}
		if fuel <= ahead {
			return api.Fault{Why: api.ErrFuel, At: t.From}, ahead
		}
		s := src[t.From:t.To]
		if all = theGrammar.step(all, t.Kind, s); len(all) == 0 {
			return api.Fault{Why: api.ErrSyntax, At: t.From}, ahead + 1
		}
		if open.with(t.Kind, s) > 64 {
			return api.Fault{Why: api.ErrNested, At: t.From}, ahead + 1
		}
		at = t.To
	}
}

// derive is the tokens of a text of the grammar that is chosen by chance: small, when room is.
func (g grammar) derive(r *rand.Rand, n *node, room int) []string {
	var l []string
	switch n.what {
	case 'r':
		l = g.derive(r, g.rules[n.text], room-1)
	case 's':
		for _, p := range n.parts {
			l = append(l, g.derive(r, p, room)...)
		}
	case 'a':
		l = g.derive(r, g.choose(r, n.parts, room), room)
	case 'o', 'm':
		for range r.IntN(3) {
			if g.heightOf(n.parts[0]) < room {
				l = append(l, g.derive(r, n.parts[0], room-1)...)
			}
			if n.what == 'o' {
				break
			}
		}
	case 't':
		l = []string{n.text}
	case 'k':
		l = []string{one(r, map[string][]string{"word": wordTexts, "number": numberTexts, "text": textTexts}[n.text])}
	}
	return l
}

// choose is any of the parts, or, when there is no room for that, the one that needs the least.
func (g grammar) choose(r *rand.Rand, parts []*node, room int) *node {
	n := parts[r.IntN(len(parts))]
	if g.heightOf(n) < room {
		return n
	}
	for _, p := range parts {
		if g.heightOf(p) < g.heightOf(n) {
			n = p
		}
	}
	return n
}
