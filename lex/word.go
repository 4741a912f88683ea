package lex

import "treadle/api"

var keys = [...]string{
	"include", "as", "export", "const", "func", "var", "if", "else",
	"while", "return", "print", "true", "false", "int", "bool", "text",
}

// Word tells whether a text is a word, and no key.
func Word(s string) bool { return just(api.TokenWord, s) }

// Key tells whether a text is a key.
func Key(s string) bool { return just(api.TokenKey, s) }

// word reads the word with which s begins; its first byte is known to be a letter.
func word(s string) (api.TokenKind, int, api.Errno) {
	size := 1
	for size < len(s) && (letter(s[size]) || digit(s[size])) {
		size++
	}
	if size > api.MaxWord {
		return 0, 0, api.ErrWord
	}
	if listed(s[:size]) {
		return api.TokenKey, size, api.OK
	}
	return api.TokenWord, size, api.OK
}

func listed(s string) bool {
	for _, k := range keys {
		if s == k {
			return true
		}
	}
	return false
}

// letter counts `_` among the letters, as words and what may not stand behind a number do.
func letter(c byte) bool { return 'A' <= c && c <= 'Z' || 'a' <= c && c <= 'z' || c == '_' }

func digit(c byte) bool { return '0' <= c && c <= '9' }
