package lex

import (
	"math"

	"treadle/api"
)

// Number is the number of a number's token.
func Number(s string) (int64, api.Errno) {
	if !just(api.TokenNumber, s) {
		return 0, api.ErrNumber
	}
	n, _ := amount(s)
	return n, api.OK
}

// number reads the number with which s begins; its first byte is known to be a digit.
func number(s string) (api.TokenKind, int, api.Errno) {
	size := 1
	for size < len(s) && digit(s[size]) {
		size++
	}
	if s[0] == '0' && size > 1 || size < len(s) && letter(s[size]) {
		return 0, 0, api.ErrNumber
	}
	if _, fits := amount(s[:size]); !fits {
		return 0, 0, api.ErrNumber
	}
	return api.TokenNumber, size, api.OK
}

// amount is what digits stand for, if it fits into the language's int.
func amount(digits string) (int64, bool) {
	n := int64(0)
	for i := range len(digits) {
		d := int64(digits[i] - '0')
		if n > (math.MaxInt64-d)/10 {
			return 0, false
		}
		n = 10*n + d
	}
	return n, true
}
