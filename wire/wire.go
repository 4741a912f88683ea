// Package wire is layer 1: numbers, truths, texts and lists as bytes, each in one form alone, and a reader that keeps its first error: see shared/doc/01-wire.md.
package wire

import "math/bits"

// PutUint is b, and behind it the short number n.
func PutUint(b []byte, n uint64) []byte {
	return addUint(withRoom(b, Size(n)), n)
}

// PutInt is b, and behind it the number with a sign n.
func PutInt(b []byte, n int64) []byte {
	return PutUint(b, folded(n))
}

// PutBool is b, and behind it the truth x.
func PutBool(b []byte, x bool) []byte {
	out := withRoom(b, 1)
	if x {
		return append(out, 1)
	}
	return append(out, 0)
}

// PutText is b, and behind it each text of l, one behind the other.
func PutText(b []byte, l ...string) []byte {
	return addTexts(withRoom(b, sizeOfTexts(l)), l)
}

// PutList is b, and behind it the list of l.
func PutList(b []byte, l ...string) []byte {
	n := uint64(len(l))
	return addTexts(addUint(withRoom(b, Size(n)+sizeOfTexts(l)), n), l)
}

// Size is how many bytes the short number n has.
func Size(n uint64) int {
	return (bits.Len64(n|1) + 6) / 7
}

// withRoom copies, because an answer may share no memory with what was handed in, not even the room behind its end.
func withRoom(b []byte, more int) []byte {
	out := make([]byte, 0, len(b)+more)
	return append(out, b...)
}

func addUint(out []byte, n uint64) []byte {
	for n > 127 {
		out = append(out, byte(n)|128)
		n >>= 7
	}
	return append(out, byte(n))
}

func addTexts(out []byte, l []string) []byte {
	for _, s := range l {
		out = addUint(out, uint64(len(s)))
		out = append(out, s...)
	}
	return out
}

func sizeOfTexts(l []string) int {
	sum := 0
	for _, s := range l {
		sum += Size(uint64(len(s))) + len(s)
	}
	return sum
}

// folded is 2 n, or -2 n - 1 below 0: n's sign goes to the lowest bit, so that numbers near 0 stay short.
func folded(n int64) uint64 {
	if n < 0 {
		return ^uint64(n)<<1 | 1
	}
	return uint64(n) << 1
}

func unfolded(n uint64) int64 {
	half := int64(n >> 1)
	if n&1 == 1 {
		return -half - 1
	}
	return half
}
