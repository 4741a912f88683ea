package print_test

import (
	"reflect"
	"slices"
	"strconv"
	"strings"

	"treadle/api"
	"treadle/lex"
	"treadle/parse"
)

// The slow forms go another way than the printer: brackets are found by trying, and gaps are told of tokens in a row, without their tree.

// slowLaid is the laid-out form of a tree that is right, whose text is short and opens few levels.
func slowLaid(m api.Module) string { return laidOut(tokensOf(m)) }

// slowTight is the short form likewise.
func slowTight(m api.Module) string { return tight(tokensOf(m)) }

// slowExpr is an expression's text likewise.
func slowExpr(e api.Expr) string { return laidRow(exprTokens(e), 0) }

// row is tokens.
type row []string

func (w *row) put(s ...string) { *w = append(*w, s...) }

// tokensOf are those that both forms have.
func tokensOf(m api.Module) []string {
	var w row
	for _, in := range m.Includes {
		w.put("include", quote(in.Path), "as", in.Name, ";")
	}
	for _, c := range m.Consts {
		w.put(when(c.Export, "export")...)
		w.put("const", c.Name, "=")
		w.put(exprTokens(c.Expr)...)
		w.put(";")
	}
	for _, f := range m.Funcs {
		w.put(when(f.Export, "export")...)
		w.put("func", f.Name, "(")
		for i, x := range f.Params {
			w.put(when(i > 0, ",")...)
			w.put(x.Name, ":", typeTexts[x.Type])
		}
		w.put(")")
		w.put(when(f.Result != api.TypeNone, ":", typeTexts[f.Result])...)
		w.block(f.Body)
	}
	return w
}

var typeTexts = map[api.Type]string{api.TypeInt: "int", api.TypeBool: "bool", api.TypeText: "text"}

func when(is bool, l ...string) []string {
	if is {
		return l
	}
	return nil
}

func quote(value string) string {
	s, _ := lex.Quote(value)
	return s
}

func (w *row) block(l []api.Stmt) {
	w.put("{")
	for _, s := range l {
		w.stmt(s)
	}
	w.put("}")
}

func (w *row) stmt(s api.Stmt) {
	ahead := map[api.StmtKind][]string{
		api.StmtVar: {"var", s.Name, "="}, api.StmtSet: {s.Name, "="}, api.StmtIf: {"if"},
		api.StmtWhile: {"while"}, api.StmtReturn: {"return"}, api.StmtPrint: {"print"},
	}
	w.put(ahead[s.Kind]...)
	if s.Expr.Kind != api.ExprNone {
		w.put(exprTokens(s.Expr)...)
	}
	if s.Kind != api.StmtIf && s.Kind != api.StmtWhile {
		w.put(";")
		return
	}
	w.block(s.Body)
	switch {
	case s.HasElse && len(s.Else) == 1 && s.Else[0].Kind == api.StmtIf:
		w.put("else")
		w.stmt(s.Else[0])
	case s.HasElse:
		w.put("else")
		w.block(s.Else)
	}
}

var opTexts = map[api.Op]string{
	api.OpOr: "||", api.OpAnd: "&&", api.OpEq: "==", api.OpNe: "!=", api.OpLt: "<", api.OpLe: "<=", api.OpGt: ">", api.OpGe: ">=",
	api.OpAdd: "+", api.OpSub: "-", api.OpJoin: "++", api.OpMul: "*", api.OpDiv: "/", api.OpRem: "%", api.OpNeg: "-", api.OpNot: "!", api.OpLen: "#",
}

// exprTokens are those of the first way to lay brackets around operands that is read as the expression: none, one pair, two.
func exprTokens(e api.Expr) []string {
	switch e.Kind {
	case api.ExprLit:
		return []string{literal(e.Value)}
	case api.ExprName:
		return nameTokens(e)
	case api.ExprCall:
		var w row
		w.put(append(nameTokens(e), "(")...)
		for i, kid := range e.Kids {
			w.put(when(i > 0, ",")...)
			w.put(exprTokens(kid)...)
		}
		w.put(")")
		return w
	}
	sign, left, right := []string{opTexts[e.Op]}, []string(nil), exprTokens(e.Kids[len(e.Kids)-1])
	if e.Kind == api.ExprBinary {
		left = exprTokens(e.Kids[0])
	}
	for _, l := range [][]string{
		slices.Concat(left, sign, right), slices.Concat(wrap(left), sign, right),
		slices.Concat(left, sign, wrap(right)), slices.Concat(wrap(left), sign, wrap(right)),
	} {
		if back, f := parse.Expr(strings.Join(l, " "), 1<<20); f == (api.Fault{}) && alike(back, e) {
			return l
		}
	}
	panic("no brackets help: " + sign[0])
}

func literal(v api.Value) string {
	switch v.Type {
	case api.TypeInt:
		return strconv.FormatInt(v.Int, 10)
	case api.TypeBool:
		return strconv.FormatBool(v.Bool)
	}
	return quote(v.Text)
}

func nameTokens(e api.Expr) []string {
	return append(when(e.Of != "", e.Of, "."), e.Name)
}

// wrap is tokens in brackets, none of none.
func wrap(l []string) []string {
	if len(l) == 0 {
		return nil
	}
	return slices.Concat([]string{"("}, l, []string{")"})
}

// spell are a source's tokens as texts, without the end; none of what has a token that is none.
func spell(src string) []string {
	var l []string
	all, _ := lex.All(src)
	for _, t := range all[:max(len(all), 1)-1] {
		l = append(l, src[t.From:t.To])
	}
	return l
}

func kindOf(s string) api.TokenKind {
	t, _ := lex.Next(s, 0)
	return t.Kind
}

// tight lays tokens down with no more between them than lex needs to tell them apart.
func tight(l []string) string {
	s := ""
	for i, x := range l {
		if i > 0 && !slices.Equal(spell(l[i-1]+" "+x), spell(l[i-1]+x)) {
			s += " "
		}
		s += x
	}
	return s
}

// endsOperand tells whether an operand could end with a token: a minus behind it stands between two.
func endsOperand(s string) bool {
	k := kindOf(s)
	return k == api.TokenWord || k == api.TokenNumber || k == api.TokenText || among(s, "true", "false", ")")
}

// standsAhead tells whether the token i is a sign ahead of its operand.
func standsAhead(l []string, i int) bool {
	return among(l[i], "!", "#") || l[i] == "-" && (i == 0 || !endsOperand(l[i-1]))
}

func among(s string, texts ...string) bool { return slices.Contains(texts, s) }

// laidOut lays a module's tokens down: a declaration ends with the first sign outside of its brackets that can end one.
func laidOut(l []string) string {
	s, last := "", ""
	for from, depth, i := 0, 0, 0; i < len(l); i++ {
		depth += turn(l[i])
		if depth > 0 || !among(l[i], ";", "}") {
			continue
		}
		what := l[from]
		if what == "export" {
			what = l[from+1]
		}
		if what == "func" && s != "" || what == "const" && last == "include" {
			s += "\n"
		}
		s += laidRow(l[from:i+1], 0) + "\n"
		last, from = what, i+1
	}
	return s
}

// turn is how many levels of brackets a token opens.
func turn(s string) int {
	switch s {
	case "(", "{":
		return 1
	case ")", "}":
		return -1
	}
	return 0
}

// laidRow lays tokens down with gaps that each hang on the tokens beside it, and on how many blocks are open.
func laidRow(l []string, blocks int) string {
	s := ""
	for i, x := range l {
		if x == "}" {
			blocks--
		}
		if i > 0 {
			s += gapAt(l, i, blocks)
		}
		s += x
		if x == "{" {
			blocks++
		}
	}
	return s
}

// gapAt is what stands ahead of the token i.
func gapAt(l []string, i, blocks int) string {
	last, x := l[i-1], l[i]
	switch {
	case last == "}" && x == "else":
		return " "
	case among(last, ";", "{", "}"):
		return "\n" + strings.Repeat("\t", blocks)
	case among(x, ",", ";", ")", ":", ".") || among(last, "(", ".") || standsAhead(l, i-1):
		return ""
	case x == "(" && kindOf(last) == api.TokenWord:
		return ""
	}
	return " "
}

// slowLevels is how many levels are open at most, at any of the tokens of a module or an expression.
func slowLevels(l []string) int {
	var open []string
	most := 0
	for i, x := range l {
		// An operand is over where neither a point nor its arguments follow: then all signs ahead of it are.
		if i > 0 && endsOperand(l[i-1]) && !(kindOf(l[i-1]) == api.TokenWord && among(x, "(", ".")) {
			for len(open) > 0 && open[len(open)-1] == "sign" {
				open = open[:len(open)-1]
			}
		}
		switch {
		case turn(x) > 0:
			open = append(open, x)
		case turn(x) < 0:
			open = open[:len(open)-1]
		case standsAhead(l, i):
			open = append(open, "sign")
		}
		most = max(most, len(open))
	}
	return most
}

// alike tells whether two trees are the same, places aside, an empty list and none being one.
func alike[T any](a, b T) bool { return alikeValues(reflect.ValueOf(a), reflect.ValueOf(b)) }

func alikeValues(a, b reflect.Value) bool {
	switch a.Kind() {
	case reflect.Struct:
		for i := range a.NumField() {
			if a.Type().Field(i).Name != "At" && !alikeValues(a.Field(i), b.Field(i)) {
				return false
			}
		}
		return true
	case reflect.Slice:
		if a.Len() != b.Len() {
			return false
		}
		for i := range a.Len() {
			if !alikeValues(a.Index(i), b.Index(i)) {
				return false
			}
		}
		return true
	}
	return a.Equal(b)
}
