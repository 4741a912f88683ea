package sha

import "treadle/api"

// Hash is a digest under way. All of it stands in arrays and numbers, so that a copy is apart from the one it came from.
type Hash struct {
	words [8]uint32
	rest  [64]byte // the bytes behind the whole blocks, and noughts behind them
	n     uint64
	made  bool // that words count: a plain Hash has noughts there, and stands at the beginning
}

// New is a hash of no bytes.
func New() *Hash {
	return &Hash{words: beginning, made: true}
}

// Load is a hash that stands so.
func Load(s api.ShaState) (*Hash, api.Errno) {
	if s.N > api.MaxHashed || uint64(len(s.Buf)) != s.N%blockSize {
		return nil, api.ErrShaState
	}
	h := &Hash{words: s.H, n: s.N, made: true}
	copy(h.rest[:], s.Buf)
	return h, api.OK
}

// Write lays parts behind what was written, or none of them if they are too long together.
func (h *Hash) Write(parts ...[]byte) api.Errno {
	if h == nil {
		return api.ErrNil
	}
	if !fit(api.MaxHashed-h.n, parts...) {
		return api.ErrShaLong
	}
	*h = h.begun()
	for _, p := range parts {
		h.take(p)
	}
	return api.OK
}

// Sum is the digest of what was written.
func (h *Hash) Sum() api.Digest {
	if h == nil {
		return api.Digest{}
	}
	padding, _ := Pad(h.n)
	padded := h.begun()
	padded.take(padding)
	return digest(padded.words)
}

// Len is how many bytes were written.
func (h *Hash) Len() uint64 {
	if h == nil {
		return 0
	}
	return h.n
}

// State is how it stands.
func (h *Hash) State() api.ShaState {
	if h == nil {
		return api.ShaState{}
	}
	rest := make([]byte, h.n%blockSize)
	copy(rest, h.rest[:])
	return api.ShaState{H: h.begun().words, Buf: rest, N: h.n}
}

// Clone is another one that stands so.
func (h *Hash) Clone() *Hash {
	if h == nil {
		return nil
	}
	c := *h
	return &c
}

// Reset lets it begin anew.
func (h *Hash) Reset() {
	if h != nil {
		*h = *New()
	}
}

// begun is a copy that has its words.
func (h Hash) begun() Hash {
	if !h.made {
		return *New()
	}
	return h
}

// take does not ask whether b fits: the padding is taken so, too, and may pass MaxHashed.
func (h *Hash) take(b []byte) {
	for len(b) > 0 {
		k := copy(h.rest[h.n%blockSize:], b)
		b = b[k:]
		h.n += uint64(k)
		if h.n%blockSize == 0 {
			h.words = Compress(h.words, h.rest)
			h.rest = [64]byte{}
		}
	}
}

// fit takes the parts from the room one by one, as their sum might wrap.
func fit(room uint64, parts ...[]byte) bool {
	for _, p := range parts {
		if uint64(len(p)) > room {
			return false
		}
		room -= uint64(len(p))
	}
	return true
}

func digest(words [8]uint32) api.Digest {
	var d api.Digest
	for i, w := range words {
		d[4*i], d[4*i+1], d[4*i+2], d[4*i+3] = byte(w>>24), byte(w>>16), byte(w>>8), byte(w)
	}
	return d
}
