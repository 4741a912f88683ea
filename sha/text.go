package sha

import (
	"cmp"

	"treadle/api"
)

const digits = "0123456789abcdef"

// Hex is a digest as text.
func Hex(d api.Digest) string {
	out := make([]byte, 0, 2*len(d))
	for _, c := range d {
		out = append(out, digits[c>>4], digits[c&15])
	}
	return string(out)
}

// Unhex is the digest of a text.
func Unhex(s string) (api.Digest, api.Errno) {
	var d api.Digest
	if len(s) != 2*len(d) {
		return api.Digest{}, api.ErrHex
	}
	for i := range d {
		upper, ok := half(s[2*i])
		lower, ok2 := half(s[2*i+1])
		if !ok || !ok2 {
			return api.Digest{}, api.ErrHex
		}
		d[i] = upper<<4 | lower
	}
	return d, api.OK
}

// Compare is the order of digests.
func Compare(a, b api.Digest) int {
	if a == b {
		return 0
	}
	i := 0
	for a[i] == b[i] {
		i++
	}
	return cmp.Compare(a[i], b[i])
}

func half(c byte) (byte, bool) {
	switch {
	case '0' <= c && c <= '9':
		return c - '0', true
	case 'a' <= c && c <= 'f':
		return c - 'a' + 10, true
	}
	return 0, false
}
