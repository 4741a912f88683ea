package scan_test

import (
	"math/rand/v2"
	"regexp"
	"strings"

	"treadle/api"
	"treadle/lex"
	"treadle/path"
)

// spelt is a source's tokens up to the first that is none, a letter each, so that the chapter's words are a pattern of letters: I(nclude) T(ext) A(s) W(ord) S(emicolon), E(nd), x another one, ? none; with the tokens, and why the last one is none.
func spelt(src string) (letters string, tokens []api.Token, why api.Errno) {
	for at := 0; ; {
		t, e := lex.Next(src, at)
		tokens = append(tokens, t)
		if e != api.OK {
			return letters + "?", tokens, e
		}
		letters += letterOf(t.Kind, src[t.From:t.To])
		if t.Kind == api.TokenEnd {
			return letters, tokens, api.OK
		}
		at = t.To
	}
}

func letterOf(kind api.TokenKind, s string) string {
	switch {
	case kind == api.TokenEnd:
		return "E"
	case kind == api.TokenText:
		return "T"
	case kind == api.TokenWord:
		return "W"
	case s == "include":
		return "I"
	case s == "as":
		return "A"
	case s == ";":
		return "S"
	}
	return "x"
}

var (
	wholeForm = regexp.MustCompile(`^(ITAWS)*`)
	// partForm is as much of an include as is right.
	partForm = regexp.MustCompile(`^I(T(A(WS?)?)?)?`)
)

// slowIncludes is P13.1 and Head of P13.2.
func slowIncludes(src string) (l []api.Include, head int, f api.Fault) {
	if len(src) > 65536 {
		return nil, 0, api.Fault{Why: api.ErrLong}
	}
	letters, tokens, why := spelt(src)
	n := len(wholeForm.FindString(letters))
	if part := len(partForm.FindString(letters[n:])); part > 0 {
		wrong := n + part
		if letters[wrong] != '?' {
			why = api.ErrInclude
		}
		return nil, 0, api.Fault{Why: why, At: tokens[wrong].From}
	}
	for i := 0; i < n; i += 5 {
		written, name := tokens[i+1], tokens[i+3]
		value, _ := lex.Text(src[written.From:written.To])
		l = append(l, api.Include{Path: value, Name: src[name.From:name.To], At: tokens[i].From})
		head = tokens[i+4].To
	}
	return l, head, api.Fault{}
}

// slowAimed is P13.3.
func slowAimed(module string, l []api.Include) ([]string, api.Fault) {
	if path.Check(module) != api.OK {
		return nil, api.Fault{Why: api.ErrPath}
	}
	if module == "" {
		return nil, api.Fault{Why: api.ErrRoot}
	}
	names := strings.Split(module, "/")
	dir := strings.Join(names[:len(names)-1], "/")
	var aims []string
	for _, in := range l {
		base := ""
		if first := strings.Split(in.Path, "/")[0]; first == "." || first == ".." {
			base = dir
		}
		aim, e := path.Join(base, in.Path)
		if aim == "" && e == api.OK {
			e = api.ErrRoot
		}
		if e != api.OK {
			return nil, api.Fault{Why: e, At: in.At}
		}
		aims = append(aims, aim)
	}
	return aims, api.Fault{}
}

// slowWith is P13.4.
func slowWith(text string, l []api.Include) (string, api.Errno) {
	_, head, f := slowIncludes(text)
	if f.Why != api.OK {
		return "", f.Why
	}
	s := ""
	for _, in := range l {
		quoted, e := lex.Quote(in.Path)
		if e != api.OK || !lex.Word(in.Name) {
			return "", api.ErrArg
		}
		s += "include " + quoted + " as " + in.Name + ";\n"
	}
	s += text[head:]
	if len(s) > 65536 {
		return "", api.ErrLong
	}
	return s, api.OK
}

var (
	gapTexts   = []string{" ", "\n", "\t", "\r", "  ", " // x\n", " // include \"a\" as a;\n", " //\n//\n", " // \xff \"\r\n"}
	writtens   = []string{`""`, `"a"`, `"a.m"`, `"./b"`, `"../c"`, `"lib/x.m"`, `"."`, `"//"`, `"/a"`, `"q\"r"`, `"\x00\xff"`, `"include"`, `"a b;"`}
	wordTexts  = []string{"a", "b", "_", "x1", "includes", "As", "Include", "iff", strings.Repeat("w", 32)}
	otherTexts = []string{"const", "export", "func", "if", "text", "true", "int", "0", "12", "==", "=", ".", ",", ":", "(", "++", "/"}
	wrongTexts = []string{"@", "&", "|", `"`, `"a`, `"\q"`, "08", "1a", "9223372036854775808", strings.Repeat("w", 33), "\xff", "\x00", "'", `"` + strings.Repeat("a", 4097) + `"`}
	fourTexts  = []string{"include", "as", ";"}
)

func one(r *rand.Rand, l []string) string { return l[r.IntN(len(l))] }

// anyToken is what could stand among includes, a token or not.
func anyToken(r *rand.Rand) string {
	return one(r, [][]string{writtens, wordTexts, otherTexts, wrongTexts, fourTexts}[r.IntN(5)])
}

// randomHead is includes that are right, with gaps of any kind between their tokens.
func randomHead(r *rand.Rand, n int) string {
	s := ""
	for range n {
		s += gapIf(r) + "include" + gapIf(r) + one(r, writtens) + gapIf(r) + "as" + one(r, gapTexts) + one(r, wordTexts) + gapIf(r) + ";"
	}
	return s
}

func gapIf(r *rand.Rand) string {
	if r.IntN(3) == 0 {
		return ""
	}
	return one(r, gapTexts)
}

// randomText is includes, and then tokens, right ones and others; now and then a byte of it is another one, or it ends early.
func randomText(r *rand.Rand) string {
	s := []byte(randomHead(r, r.IntN(4)))
	if r.IntN(2) == 0 {
		s = append(s, " include"...)
	}
	for range r.IntN(6) {
		s = append(append(s, gapIf(r)...), anyToken(r)...)
	}
	switch {
	case len(s) > 0 && r.IntN(4) == 0:
		s[r.IntN(len(s))] = byte(r.IntN(256))
	case r.IntN(4) == 0:
		s = s[:r.IntN(len(s)+1)]
	}
	return string(s)
}

// randomList is includes as With and Aimed may get them.
func randomList(r *rand.Rand) []api.Include {
	var l []api.Include
	for range r.IntN(5) {
		value, _ := lex.Text(one(r, writtens))
		name := one(r, wordTexts)
		if r.IntN(20) == 0 {
			name = anyToken(r)
		}
		l = append(l, api.Include{Path: value, Name: name, At: r.IntN(1000) - 10})
	}
	return l
}
