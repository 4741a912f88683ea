package parse_test

import (
	"math/rand/v2"
	"slices"
	"strconv"
	"strings"

	"treadle/api"
	"treadle/lex"
)

// slowModule is G1 and G2: the tree, the fault, the least fuel.
func slowModule(src string, fuel int) (api.Module, api.Fault, int) {
	f, least := slowFault("Module", src, fuel)
	if f != (api.Fault{}) {
		return api.Module{}, f, least
	}
	return piece{src, tokensOf(src)}.module(), f, least
}

// slowExpr is likewise of an expression.
func slowExpr(src string, fuel int) (api.Expr, api.Fault) {
	f, _ := slowFault("Expr", src, fuel)
	if f != (api.Fault{}) {
		return api.Expr{}, f
	}
	return piece{src, tokensOf(src)}.expr(), f
}

// tokensOf are a source's tokens without the end.
func tokensOf(src string) []api.Token {
	l, _ := lex.All(src)
	return l[:len(l)-1]
}

// piece is some tokens of a source that is known to be right: what they are is found by looking for brackets, signs and keys, not by reading on.
type piece struct {
	src    string
	tokens []api.Token
}

func (x piece) size() int              { return len(x.tokens) }
func (x piece) at(i int) int           { return x.tokens[i].From }
func (x piece) cut(from, to int) piece { return piece{x.src, x.tokens[from:to]} }

// text is that of the token i, or nothing, if there is none.
func (x piece) text(i int) string {
	if i < 0 || i >= len(x.tokens) {
		return ""
	}
	return x.src[x.tokens[i].From:x.tokens[i].To]
}

// find is the first token from i on, outside of all brackets that open from i on, that is s.
func (x piece) find(i int, s string) int {
	for depth := 0; i < x.size(); i++ {
		if depth == 0 && x.text(i) == s {
			return i
		}
		depth += turn(x.text(i))
	}
	panic("no " + s)
}

// behind is the place behind the bracket that closes the one that opens at i.
func (x piece) behind(i int) int {
	for depth := 0; i < x.size(); {
		depth += turn(x.text(i))
		i++
		if depth == 0 {
			return i
		}
	}
	panic("no end")
}

func turn(s string) int {
	switch s {
	case "(", "{":
		return 1
	case ")", "}":
		return -1
	}
	return 0
}

func (x piece) module() (m api.Module) {
	for i := 0; i < x.size(); {
		if x.text(i) == "include" {
			path, _ := lex.Text(x.text(i + 1))
			m.Includes = append(m.Includes, api.Include{Path: path, Name: x.text(i + 3), At: x.at(i)})
			i += 5
			continue
		}
		export := x.text(i) == "export"
		if export {
			i++
		}
		if x.text(i) == "func" {
			end := x.behind(x.find(i, "{"))
			m.Funcs = append(m.Funcs, x.cut(i, end).function(export))
			i = end
			continue
		}
		end := x.find(i, ";")
		m.Consts = append(m.Consts, api.Const{Name: x.text(i + 1), Export: export, At: x.at(i + 1), Expr: x.cut(i+3, end).expr()})
		i = end + 1
	}
	return m
}

var typeNames = map[string]api.Type{"int": api.TypeInt, "bool": api.TypeBool, "text": api.TypeText}

func (x piece) function(export bool) api.Func {
	f := api.Func{Name: x.text(1), Export: export, At: x.at(1)}
	i := 3
	for ; x.text(i) != ")" && x.text(i-1) != ")"; i += 4 {
		f.Params = append(f.Params, api.Param{Name: x.text(i), Type: typeNames[x.text(i+2)]})
	}
	open := x.find(x.behind(2), "{")
	f.Result = typeNames[x.text(open-1)]
	f.Body = x.cut(open+1, x.size()-1).block()
	return f
}

func (x piece) block() (l []api.Stmt) {
	for i := 0; i < x.size(); {
		var s api.Stmt
		s, i = x.stmt(i)
		l = append(l, s)
	}
	return l
}

// stmt is the statement at i, and where the next one begins.
func (x piece) stmt(i int) (api.Stmt, int) {
	s := api.Stmt{At: x.at(i)}
	if first := x.text(i); first == "if" || first == "while" {
		open := x.find(i, "{")
		end := x.behind(open)
		s.Kind, s.Expr, s.Body = api.StmtWhile, x.cut(i+1, open).expr(), x.cut(open+1, end-1).block()
		if first == "if" {
			s.Kind = api.StmtIf
			end = x.otherwise(&s, end)
		}
		return s, end
	}
	end := x.find(i, ";")
	switch {
	case x.text(i) == "var":
		s.Kind, s.Name, s.Expr = api.StmtVar, x.text(i+1), x.cut(i+3, end).expr()
	case x.text(i+1) == "=":
		s.Kind, s.Name, s.Expr = api.StmtSet, x.text(i), x.cut(i+2, end).expr()
	case x.text(i) == "return" && end == i+1:
		s.Kind = api.StmtReturn
	case x.text(i) == "return":
		s.Kind, s.Expr = api.StmtReturn, x.cut(i+1, end).expr()
	case x.text(i) == "print":
		s.Kind, s.Expr = api.StmtPrint, x.cut(i+1, end).expr()
	default:
		s.Kind, s.Expr = api.StmtDo, x.cut(i, end).expr()
	}
	return s, end + 1
}

// otherwise fills in an else that stands at i, and tells what is behind it.
func (x piece) otherwise(s *api.Stmt, i int) int {
	if x.text(i) != "else" {
		return i
	}
	s.HasElse = true
	if x.text(i+1) == "if" {
		inner, end := x.stmt(i + 1)
		s.Else = []api.Stmt{inner}
		return end
	}
	end := x.behind(i + 1)
	s.Else = x.cut(i+2, end-1).block()
	return end
}

var (
	// operators are those between two, a line of the grammar each, the weakest first.
	operators = []map[string]api.Op{
		{"||": api.OpOr}, {"&&": api.OpAnd},
		{"==": api.OpEq, "!=": api.OpNe, "<": api.OpLt, "<=": api.OpLe, ">": api.OpGt, ">=": api.OpGe},
		{"+": api.OpAdd, "-": api.OpSub, "++": api.OpJoin},
		{"*": api.OpMul, "/": api.OpDiv, "%": api.OpRem},
	}
	aheads = map[string]api.Op{"-": api.OpNeg, "!": api.OpNot, "#": api.OpLen}
)

// expr splits at the last operator that binds weakest, outside of all brackets: so operators of one line bind to the left.
func (x piece) expr() api.Expr {
	for _, line := range operators {
		depth := 0
		for i := x.size() - 1; i > 0; i-- {
			depth += turn(x.text(i))
			if op := line[x.text(i)]; depth == 0 && op != api.OpNone && x.endsOperand(i-1) {
				return api.Expr{Kind: api.ExprBinary, At: x.at(i), Op: op, Kids: []api.Expr{x.cut(0, i).expr(), x.cut(i+1, x.size()).expr()}}
			}
		}
	}
	if op := aheads[x.text(0)]; op != api.OpNone {
		return api.Expr{Kind: api.ExprUnary, At: x.at(0), Op: op, Kids: []api.Expr{x.cut(1, x.size()).expr()}}
	}
	if x.text(0) == "(" {
		return x.cut(1, x.size()-1).expr()
	}
	return x.leaf()
}

func (x piece) endsOperand(i int) bool {
	s := x.text(i)
	return x.tokens[i].Kind < api.TokenKey || s == "true" || s == "false" || s == ")"
}

// leaf is a literal, a name or a call.
func (x piece) leaf() api.Expr {
	e := api.Expr{Kind: api.ExprLit, At: x.at(0)}
	switch s := x.text(0); x.tokens[0].Kind {
	case api.TokenNumber:
		n, _ := strconv.ParseInt(s, 10, 64)
		e.Value = api.Value{Type: api.TypeInt, Int: n}
		return e
	case api.TokenText:
		v, _ := lex.Text(s)
		e.Value = api.Value{Type: api.TypeText, Text: v}
		return e
	case api.TokenKey:
		e.Value = api.Value{Type: api.TypeBool, Bool: s == "true"}
		return e
	}
	e.Kind, e.Name = api.ExprName, x.text(0)
	behind := 1
	if x.text(1) == "." {
		e.Of, e.Name, behind = x.text(0), x.text(2), 3
	}
	if behind < x.size() {
		e.Kind, e.Kids = api.ExprCall, x.cut(behind+1, x.size()-1).arguments()
	}
	return e
}

func (x piece) arguments() (l []api.Expr) {
	from, depth := 0, 0
	for i := range x.size() {
		depth += turn(x.text(i))
		if depth == 0 && x.text(i) == "," {
			l = append(l, x.cut(from, i).expr())
			from = i + 1
		}
	}
	if x.size() > 0 {
		l = append(l, x.cut(from, x.size()).expr())
	}
	return l
}

// slowFits is G4.
func slowFits(tokens []string) bool {
	for _, s := range tokens {
		l, f := lex.All(s)
		if f != (api.Fault{}) || len(l) != 2 || l[0].From != 0 || l[0].To != len(s) {
			return false
		}
	}
	f, _ := slowFault("Module", strings.Join(tokens, " "), len(tokens))
	return f == api.Fault{}
}

var (
	wordTexts   = []string{"a", "b", "f", "g", "x1", "_", "iff", "Int", "includes", "return_", strings.Repeat("w", 32)}
	numberTexts = []string{"0", "1", "7", "12", "9223372036854775807"}
	textTexts   = []string{`""`, `"a"`, `"a.m"`, `"q\"r"`, `"\x00\xff\n"`, `"// no"`, `";"`}
	keyTexts    = []string{"include", "as", "export", "const", "func", "var", "if", "else", "while", "return", "print", "true", "false", "int", "bool", "text"}
	signTexts   = []string{"==", "!=", "<=", ">=", "++", "&&", "||", "(", ")", "{", "}", ",", ";", ":", ".", "=", "<", ">", "+", "-", "*", "/", "%", "!", "#"}
	// everyToken has one of each kind, and each key and sign.
	everyToken = slices.Concat([]string{"a", "1", `"a"`}, keyTexts, signTexts)
	// noTokens are texts that begin with none, and layer 12's error of each.
	noTokens = map[string]api.Errno{"@": api.ErrByte, "&": api.ErrByte, "|": api.ErrByte, "\xff": api.ErrByte, "\x00": api.ErrByte, "08": api.ErrNumber, "1a": api.ErrNumber, "9223372036854775808": api.ErrNumber,
		`"a`: api.ErrText, `"\q"`: api.ErrText, strings.Repeat("w", 33): api.ErrWord}
	gapTexts = []string{" ", "\n", "\t", "\r", "  ", " // x\n", " // \" ( {\n", " //\n//\n", "\t// \xff \r\n"}
)

func one(r *rand.Rand, l []string) string { return l[r.IntN(len(l))] }

// anyToken is a token, and now and then a text that is none.
func anyToken(r *rand.Rand) string {
	if r.IntN(20) > 0 {
		return one(r, [][]string{wordTexts, numberTexts, textTexts, keyTexts, signTexts, signTexts}[r.IntN(6)])
	}
	var l []string
	for s := range noTokens {
		l = append(l, s)
	}
	slices.Sort(l)
	return one(r, l)
}

// spaced is tokens with a gap of any kind ahead of each, and behind all.
func spaced(r *rand.Rand, tokens []string) string {
	var s strings.Builder
	for _, x := range tokens {
		s.WriteString(one(r, gapTexts) + x)
	}
	return s.String() + one(r, gapTexts)
}

// randomTokens are a rule's, now and then with one of them turned, lost, doubled, or all behind it.
func randomTokens(r *rand.Rand, rule string) []string {
	l := theGrammar.derive(r, &node{what: 'r', text: rule}, 8+r.IntN(14))
	if len(l) == 0 || r.IntN(2) == 0 {
		return l
	}
	i := r.IntN(len(l))
	switch r.IntN(5) {
	case 0:
		return slices.Delete(l, i, i+1)
	case 1:
		return slices.Insert(l, i, anyToken(r))
	case 2:
		return l[:i]
	case 3:
		return slices.Insert(l, i, l[i])
	}
	l[i] = anyToken(r)
	return l
}
