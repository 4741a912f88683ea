package lex

import (
	"strings"

	"treadle/api"
)

const hexDigits = "0123456789abcdef"

// Text is the value of a text's token.
func Text(s string) (string, api.Errno) {
	if !just(api.TokenText, s) {
		return "", api.ErrText
	}
	var value strings.Builder
	for at := 1; at < len(s)-1; {
		c, size := piece(s[at:])
		value.WriteByte(c)
		at += size
	}
	return value.String(), api.OK
}

// Quote is the text of a value, in its one form.
func Quote(value string) (string, api.Errno) {
	if len(value) > api.MaxText {
		return "", api.ErrLong
	}
	var s strings.Builder
	s.WriteByte('"')
	for i := range len(value) {
		writePiece(&s, value[i])
	}
	s.WriteByte('"')
	return s.String(), api.OK
}

// text reads the text with which s begins; its first byte is known to be a quote.
func text(s string) (api.TokenKind, int, api.Errno) {
	at := 1
	for length := 0; length <= api.MaxText; length++ {
		if at < len(s) && s[at] == '"' {
			return api.TokenText, at + 1, api.OK
		}
		_, size := piece(s[at:])
		if size == 0 {
			break
		}
		at += size
	}
	return 0, 0, api.ErrText
}

// piece is the byte for which the piece stands with which s begins, and the piece's size: 0, if none begins there.
func piece(s string) (byte, int) {
	switch {
	case s == "" || !plain(s[0]) && s[0] != '\\':
		return 0, 0
	case s[0] != '\\':
		return s[0], 1
	case len(s) >= 4 && s[1] == 'x':
		return coded(s[2], s[3])
	case len(s) >= 2:
		return named(s[1])
	}
	return 0, 0
}

// plain tells whether a byte stands for itself in a text.
func plain(c byte) bool { return 32 <= c && c <= 126 && c != '"' && c != '\\' }

// named is the piece of a backslash and c.
func named(c byte) (byte, int) {
	switch c {
	case 'n':
		return '\n', 2
	case 't':
		return '\t', 2
	case '"', '\\':
		return c, 2
	}
	return 0, 0
}

// coded is the piece of `\x` and two digits.
func coded(high, low byte) (byte, int) {
	h, l := strings.IndexByte(hexDigits, high), strings.IndexByte(hexDigits, low)
	if h < 0 || l < 0 {
		return 0, 0
	}
	return byte(16*h + l), 4
}

func writePiece(s *strings.Builder, c byte) {
	switch {
	case c == '\n':
		s.WriteString(`\n`)
	case c == '\t':
		s.WriteString(`\t`)
	case plain(c):
		s.WriteByte(c)
	case c == '"' || c == '\\':
		s.WriteByte('\\')
		s.WriteByte(c)
	default:
		s.WriteString(`\x`)
		s.WriteByte(hexDigits[c>>4])
		s.WriteByte(hexDigits[c&15])
	}
}
