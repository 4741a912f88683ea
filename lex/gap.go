package lex

import "strings"

// gap is the size of the gap with which s begins.
func gap(s string) int {
	size := 0
	for {
		n := blanks(s[size:])
		n += remark(s[size+n:])
		if n == 0 {
			return size
		}
		size += n
	}
}

func blanks(s string) int {
	n := 0
	for n < len(s) && blank(s[n]) {
		n++
	}
	return n
}

func blank(c byte) bool { return c == ' ' || c == '\t' || c == '\n' || c == '\r' }

// remark is the size of the remark with which s begins, or 0. The byte 10 behind it is no part of it, but a blank.
func remark(s string) int {
	if !strings.HasPrefix(s, "//") {
		return 0
	}
	if n := strings.IndexByte(s, '\n'); n >= 0 {
		return n
	}
	return len(s)
}
