package lex_test

import (
	"math/big"
	"math/rand/v2"
	"regexp"
	"strconv"
	"strings"

	"treadle/api"
)

// The chapter's words once more, as patterns.
var (
	gapForm    = regexp.MustCompile(`^([ \t\n\r]|//[^\n]*)*`)
	wordForm   = regexp.MustCompile(`^[A-Za-z_][A-Za-z0-9_]*`)
	numberForm = regexp.MustCompile(`^[0-9]+`)
	textForm   = regexp.MustCompile(`^"(` + pieceText + `)*"`)
	pieceForm  = regexp.MustCompile(pieceText)
)

const (
	pieceText = `[ !#-\[\]-~]|\\n|\\t|\\"|\\\\|\\x[0-9a-f][0-9a-f]`
	keyText   = " include as export const func var if else while return print true false int bool text "
	longSigns = " == != <= >= ++ && || "
	signTexts = " ( ) { } , ; : . = < > + - * / % ! # "
)

// slowNext is L1.
func slowNext(src string, at int) (api.Token, api.Errno) {
	if len(src) > 65536 {
		return api.Token{}, api.ErrLong
	}
	if at < 0 || at > len(src) {
		return api.Token{}, api.ErrArg
	}
	from := at + len(gapForm.FindString(src[at:]))
	kind, size, e := slowToken(src[from:])
	if e != api.OK {
		return api.Token{From: from}, e
	}
	return api.Token{Kind: kind, From: from, To: from + size}, api.OK
}

func slowToken(s string) (api.TokenKind, int, api.Errno) {
	if s == "" {
		return api.TokenEnd, 0, api.OK
	}
	if w := wordForm.FindString(s); w != "" {
		if len(w) > 32 {
			return 0, 0, api.ErrWord
		}
		if strings.Contains(keyText, " "+w+" ") {
			return api.TokenKey, len(w), api.OK
		}
		return api.TokenWord, len(w), api.OK
	}
	if n := numberForm.FindString(s); n != "" {
		if wordForm.MatchString(s[len(n):]) || !slowNumber(n) {
			return 0, 0, api.ErrNumber
		}
		return api.TokenNumber, len(n), api.OK
	}
	if s[0] == '"' {
		x := textForm.FindString(s)
		if x == "" || len(slowValue(x)) > 4096 {
			return 0, 0, api.ErrText
		}
		return api.TokenText, len(x), api.OK
	}
	for _, l := range []string{longSigns, signTexts} {
		for _, x := range strings.Fields(l) {
			if strings.HasPrefix(s, x) {
				return api.TokenSign, len(x), api.OK
			}
		}
	}
	return 0, 0, api.ErrByte
}

// slowNumber tells whether digits are a number.
func slowNumber(digits string) bool {
	n, is := new(big.Int).SetString(digits, 10)
	return is && n.String() == digits && n.IsInt64()
}

// slowValue is the value of a text of the right form.
func slowValue(s string) string {
	var value []byte
	for _, p := range pieceForm.FindAllString(s[1:len(s)-1], -1) {
		switch {
		case len(p) == 1:
			value = append(value, p...)
		case p == `\n`:
			value = append(value, 10)
		case p == `\t`:
			value = append(value, 9)
		case len(p) == 2:
			value = append(value, p[1])
		default:
			n, _ := strconv.ParseUint(p[2:], 16, 8)
			value = append(value, byte(n))
		}
	}
	return string(value)
}

// slowAll is L2.
func slowAll(src string) ([]api.Token, api.Fault) {
	var l []api.Token
	at := 0
	for {
		t, e := slowNext(src, at)
		if e != api.OK {
			return nil, api.Fault{Why: e, At: t.From}
		}
		l = append(l, t)
		if t.Kind == api.TokenEnd {
			return l, api.Fault{}
		}
		at = t.To
	}
}

// slowKind is the kind of which s is just one token, or TokenEnd.
func slowKind(s string) api.TokenKind {
	k, size, e := slowToken(s)
	if e != api.OK || size != len(s) {
		return api.TokenEnd
	}
	return k
}

// slowQuote is L3 of a value that is not too long.
func slowQuote(value string) string {
	const digits = "0123456789abcdef"
	s := []byte{'"'}
	for _, c := range []byte(value) {
		switch {
		case c == 10:
			s = append(s, '\\', 'n')
		case c == 9:
			s = append(s, '\\', 't')
		case c == '"', c == '\\':
			s = append(s, '\\', c)
		case c >= 32 && c <= 126:
			s = append(s, c)
		default:
			s = append(s, '\\', 'x', digits[c/16], digits[c%16])
		}
	}
	return string(append(s, '"'))
}

// slowPlace is L4.
func slowPlace(src string, at int) (line, column int, e api.Errno) {
	if len(src) > 65536 {
		return 0, 0, api.ErrLong
	}
	if at < 0 || at > len(src) {
		return 0, 0, api.ErrArg
	}
	line, column = 1, 1
	for _, c := range []byte(src[:at]) {
		column++
		if c == 10 {
			line, column = line+1, 1
		}
	}
	return line, column, api.OK
}

var tokenTexts = append(strings.Fields(keyText+longSigns+signTexts),
	"a", "_", "iff", "tex", "x1", "_9", strings.Repeat("Z", 32), "0", "7", "10", "9223372036854775807", "900000000000000000",
	`""`, `"a b"`, `"//"`, `"\\"`, `"\""`, `"\x00\xff"`, `"\n\t~ "`, `"a\x0ab"`)

var badTexts = []string{strings.Repeat("a", 33), "00", "01", "1a", "1_", "0x1", "9223372036854775808", `"`, `"\q"`, `"\x0A"`, `"\x"`, "\"\n\"", "\"\x7f\"",
	"&", "|", "@", "~", "^", "$", "?", "'", "`", "[", "]", "\\", "\x00", "\x0b", "\x0c", "\x7f", "\x80", "\xff", "é"}

var gapTexts = []string{" ", "\t", "\n", "\r", "  ", " // x\n", " //\n", " \n\n//// \"\n\t", " // \xff é\r\n", " //\n//\n"}

func randomGap(r *rand.Rand) string { return gapTexts[r.IntN(len(gapTexts))] }

// randomSource is tokens with gaps between them, most of them; now and then something else among them, or a byte changed.
func randomSource(r *rand.Rand) string {
	var s []byte
	for range r.IntN(12) {
		if r.IntN(4) > 0 {
			s = append(s, randomGap(r)...)
		}
		if r.IntN(40) == 0 {
			s = append(s, badTexts[r.IntN(len(badTexts))]...)
		}
		s = append(s, tokenTexts[r.IntN(len(tokenTexts))]...)
	}
	if r.IntN(4) == 0 {
		s = append(s, " // the end"...)
	}
	if len(s) > 0 && r.IntN(4) == 0 {
		s[r.IntN(len(s))] = byte(r.IntN(256))
	}
	return string(s)
}
