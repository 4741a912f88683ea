package duct

import (
	"slices"
)

// hold is what all ducts have in common: bytes in their order, and how many there may be.
type hold struct {
	held []byte
	most int // 0 in a duct that no call made
}

func (h *hold) size() int { return len(h.held) }

func (h *hold) free() int { return h.most - len(h.held) }

// put lays in as many bytes as find room: how many.
func (h *hold) put(b []byte) int {
	n := min(len(b), h.free())
	h.held = append(h.held, b[:n]...)
	return n
}

// first is a copy of the first n bytes, or of all.
func (h *hold) first(n int) []byte {
	n = max(0, min(n, len(h.held)))
	return append([]byte(nil), h.held[:n]...)
}

func (h *hold) turn(at int, mask byte) { h.held[at] ^= mask }

// drop takes n bytes away from a place on. At the front nothing is moved: a duct is mostly read in small pieces.
func (h *hold) drop(at, n int) {
	if at == 0 {
		h.held = h.held[n:]
	} else {
		h.held = slices.Delete(h.held, at, at+n)
	}
	// An empty duct keeps no memory of what went through.
	if len(h.held) == 0 {
		h.held = nil
	}
}
