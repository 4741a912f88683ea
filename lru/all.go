package lru

import (
	"iter"
)

// pair is an entry as it stood at one time.
type pair[K comparable, V any] struct {
	key   K
	value V
}

// pairs are the entries as they stand now, the newest first.
func (m *Memo[K, V]) pairs() []pair[K, V] {
	l := make([]pair[K, V], 0, len(m.entries))
	for e := m.row.newest(); e != m.row.end; e = e.older {
		l = append(l, pair[K, V]{e.key, e.value})
	}
	return l
}

// All goes over keys and values, the newest first.
func (m *Memo[K, V]) All() iter.Seq2[K, V] {
	if !m.made() {
		return func(yield func(K, V) bool) {}
	}
	// Taken here and not in the function, which may run behind other calls, and amid them.
	l := m.pairs()
	return func(yield func(K, V) bool) {
		for _, p := range l {
			if !yield(p.key, p.value) {
				return
			}
		}
	}
}

// Copy is a memo that stands as this one.
func (m *Memo[K, V]) Copy() *Memo[K, V] {
	if !m.made() {
		return nil
	}
	c := empty[K, V](m.most)
	c.uses = m.uses
	for e := m.row.oldest(); e != m.row.end; e = e.newer {
		c.add(e.key, e.value)
	}
	return c
}
