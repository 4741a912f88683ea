package lru_test

import (
	"fmt"
	"iter"
	"math/rand/v2"
	"slices"
	"strings"
	"testing"

	"treadle/api"
	"treadle/lru"
)

// memo is what a memo can be asked, and the slow one too.
type memo[K comparable, V any] interface {
	Get(k K) (V, bool)
	Look(k K) (V, bool)
	Put(k K, v V) (K, bool)
	Drop(keys ...K) int
	Resize(most int) ([]K, api.Errno)
	Len() int
	Most() int
	All() iter.Seq2[K, V]
	Uses() api.Uses
}

type pair[K comparable, V any] struct {
	key   K
	value V
}

// slow says the chapter's words once more: a plain list, the newest first.
type slow[K comparable, V any] struct {
	most int
	list []pair[K, V]
	uses api.Uses
}

func (s *slow[K, V]) place(k K) int {
	return slices.IndexFunc(s.list, func(p pair[K, V]) bool { return p.key == k })
}

// toFront makes the entry at a place the newest.
func (s *slow[K, V]) toFront(i int) {
	p := s.list[i]
	s.list = slices.Insert(slices.Delete(s.list, i, i+1), 0, p)
}

func (s *slow[K, V]) Get(k K) (V, bool) {
	v, ok := s.Look(k)
	if !ok {
		s.uses.Misses++
		return v, false
	}
	s.uses.Hits++
	s.toFront(s.place(k))
	return v, true
}

func (s *slow[K, V]) Look(k K) (V, bool) {
	if i := s.place(k); i >= 0 {
		return s.list[i].value, true
	}
	var none V
	return none, false
}

func (s *slow[K, V]) Put(k K, v V) (K, bool) {
	var none K
	if i := s.place(k); i >= 0 {
		s.list[i].value = v
		s.toFront(i)
		return none, false
	}
	s.list = slices.Insert(s.list, 0, pair[K, V]{k, v})
	if gone := s.cut(); len(gone) > 0 {
		return gone[0], true
	}
	return none, false
}

// cut lets go what is too many: the keys, the oldest first.
func (s *slow[K, V]) cut() []K {
	var gone []K
	for len(s.list) > s.most {
		last := len(s.list) - 1
		gone = append(gone, s.list[last].key)
		s.list = s.list[:last]
		s.uses.Gone++
	}
	return gone
}

func (s *slow[K, V]) Drop(keys ...K) int {
	before := len(s.list)
	s.list = slices.DeleteFunc(s.list, func(p pair[K, V]) bool { return slices.Contains(keys, p.key) })
	return before - len(s.list)
}

func (s *slow[K, V]) Resize(most int) ([]K, api.Errno) {
	if most < 1 || most > 4096 {
		return nil, api.ErrArg
	}
	s.most = most
	return s.cut(), api.OK
}

func (s *slow[K, V]) Len() int { return len(s.list) }

func (s *slow[K, V]) Most() int { return s.most }

func (s *slow[K, V]) Uses() api.Uses { return s.uses }

func (s *slow[K, V]) All() iter.Seq2[K, V] {
	l := slices.Clone(s.list)
	return func(yield func(K, V) bool) {
		for _, p := range l {
			if !yield(p.key, p.value) {
				return
			}
		}
	}
}

func (s *slow[K, V]) copied() *slow[K, V] {
	return &slow[K, V]{s.most, slices.Clone(s.list), s.uses}
}

// told is what an iterator tells.
func told[K comparable, V any](all iter.Seq2[K, V]) string {
	var parts []string
	for k, v := range all {
		parts = append(parts, fmt.Sprintf("%v %v", k, v))
	}
	return strings.Join(parts, ", ")
}

// stand is all that can be asked of a memo without turning it.
func stand[K comparable, V any](m memo[K, V]) string {
	return fmt.Sprintf("%d of %d %v: %s", m.Len(), m.Most(), m.Uses(), told(m.All()))
}

// call is one call of a memo whose keys are told by numbers.
type call struct {
	name  string
	keys  []int
	value int
}

func (c call) String() string { return fmt.Sprintf("%s%v %d", c.name, c.keys, c.value) }

// do makes the call: its answers as a text.
func do[K comparable, V any](m memo[K, V], c call, key func(int) K, value func(int) V) string {
	switch c.name {
	case "Get":
		v, ok := m.Get(key(c.keys[0]))
		return fmt.Sprintf("%v %v", v, ok)
	case "Look":
		v, ok := m.Look(key(c.keys[0]))
		return fmt.Sprintf("%v %v", v, ok)
	case "Put":
		k, ok := m.Put(key(c.keys[0]), value(c.value))
		return fmt.Sprintf("%v %v", k, ok)
	case "Drop":
		var keys []K
		for _, n := range c.keys {
			keys = append(keys, key(n))
		}
		return fmt.Sprint(m.Drop(keys...))
	case "Resize":
		l, e := m.Resize(c.value)
		return fmt.Sprintf("%d %v %d", len(l), l, int(e))
	}
	panic("no call " + c.name)
}

// someCall is any call with keys below a number; one in so many is a Drop or a Resize.
func someCall(g *rand.Rand, keys, rare int) call {
	k := g.IntN(keys)
	if g.IntN(rare) == 0 {
		if g.IntN(2) == 0 {
			l := make([]int, g.IntN(4))
			for i := range l {
				l[i] = g.IntN(keys)
			}
			return call{name: "Drop", keys: l}
		}
		return call{name: "Resize", value: g.IntN(keys+2) - 1}
	}
	switch g.IntN(4) {
	case 0:
		return call{name: "Look", keys: []int{k}}
	case 1:
		return call{name: "Get", keys: []int{k}}
	}
	return call{"Put", []int{k}, g.IntN(1000)}
}

func newMemo[K comparable, V any](t *testing.T, most int) *lru.Memo[K, V] {
	t.Helper()
	m, e := lru.New[K, V](most)
	if e != api.OK || m == nil {
		t.Fatalf("New(%d): %v, %v", most, m, e)
	}
	return m
}

// number is a key or a value that is the number itself.
func number(n int) int { return n }

// letter is a key that is one letter; the zero key for 0.
func letter(n int) string {
	if n == 0 {
		return ""
	}
	return string(rune('a' + n - 1))
}

type both struct {
	n    int
	text string
}

// structure is a key of two parts, both of which part keys.
func structure(n int) both { return both{n / 3, letter(n % 3)} }

func array(n int) [2]uint8 { return [2]uint8{uint8(n / 2), uint8(n % 2)} }

// anything is a key of any type: unlike types part keys as well.
func anything(n int) any {
	switch n % 4 {
	case 0:
		return n / 4
	case 1:
		return int64(n / 4)
	case 2:
		return letter(n / 4)
	}
	return both{n / 4, ""}
}
