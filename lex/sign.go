package lex

import (
	"strings"

	"treadle/api"
)

// Those of two bytes stand ahead, so that the first one that fits is the longest.
var signs = [...]string{
	"==", "!=", "<=", ">=", "++", "&&", "||",
	"(", ")", "{", "}", ",", ";", ":", ".", "=", "<", ">", "+", "-", "*", "/", "%", "!", "#",
}

// sign reads the sign with which s begins.
func sign(s string) (api.TokenKind, int, api.Errno) {
	for _, x := range signs {
		if strings.HasPrefix(s, x) {
			return api.TokenSign, len(x), api.OK
		}
	}
	return 0, 0, api.ErrByte
}
