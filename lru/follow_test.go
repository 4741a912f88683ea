package lru_test

import (
	"fmt"
	"math/rand/v2"
	"testing"

	"treadle/lru"
)

// held makes a call of a memo and of the slow one, and holds them against each other.
func held[K comparable, V any](t *testing.T, m *lru.Memo[K, V], s *slow[K, V], c call, key func(int) K, value func(int) V) {
	t.Helper()
	before := stand(m)
	if got, want := do(m, c, key, value), do(s, c, key, value); got != want {
		t.Fatalf("%v of %q: %q, not %q", c, before, got, want)
	}
	if got, want := stand(m), stand(s); got != want {
		t.Fatalf("behind %v of %q: %q, not %q", c, before, got, want)
	}
}

// everyCall are the calls of a few keys, the zero key among them.
func everyCall() []call {
	var l []call
	for k := range 4 {
		l = append(l, call{"Get", []int{k}, 0}, call{"Look", []int{k}, 0}, call{"Put", []int{k}, 10 + k}, call{"Drop", []int{k}, 0})
	}
	for most := range 4 {
		l = append(l, call{"Resize", nil, most})
	}
	return append(l, call{"Put", []int{1}, 0}, call{"Drop", nil, 0}, call{"Drop", []int{2, 1, 2}, 0})
}

// P11.2 to P11.4: all rows of four calls, of a full memo and of an empty one: each branch goes on with a copy.
func TestEveryRowOfCalls(t *testing.T) {
	calls := everyCall()
	var follow func(m *lru.Memo[string, int], s *slow[string, int], deep int)
	follow = func(m *lru.Memo[string, int], s *slow[string, int], deep int) {
		if deep == 0 {
			return
		}
		for _, c := range calls {
			n, r := m.Copy(), s.copied()
			held(t, n, r, c, letter, number)
			follow(n, r, deep-1)
		}
	}
	for most := range 3 {
		m, s := newMemo[string, int](t, most+1), &slow[string, int]{most: most + 1}
		follow(m, s, 3)
		for k := range most + 1 {
			held(t, m, s, call{"Put", []int{k}, k}, letter, number)
		}
		follow(m, s, 3)
	}
	m, s := newMemo[string, int](t, 3), &slow[string, int]{most: 3}
	for k := range 3 {
		held(t, m, s, call{"Put", []int{k}, k}, letter, number)
	}
	follow(m, s, 4)
}

// anyCalls makes random calls of memos of one type.
func anyCalls[K comparable, V any](t *testing.T, key func(int) K, value func(int) V) {
	t.Run(fmt.Sprintf("%T to %T", key(0), value(0)), func(t *testing.T) {
		g := rand.New(rand.NewPCG(11, 2))
		for range 300 {
			most, keys := 1+g.IntN(9), 2+g.IntN(12)
			m, s := newMemo[K, V](t, most), &slow[K, V]{most: most}
			for range g.IntN(60) {
				held(t, m, s, someCall(g, keys, 6), key, value)
				if g.IntN(10) == 0 {
					m = m.Copy()
				}
			}
		}
	})
}

// P11.2 to P11.4, with numbers, texts, structs and arrays as keys, and values that can't be compared.
func TestAnyCalls(t *testing.T) {
	anyCalls(t, number, number)
	anyCalls(t, func(n int) int8 { return int8(-n) }, letter)
	anyCalls(t, letter, number)
	anyCalls(t, structure, func(n int) []int { return make([]int, n%5) })
	anyCalls(t, array, func(n int) map[int]int { return map[int]int{n: n} })
	anyCalls(t, func(n int) bool { return n%2 == 1 }, array)
	anyCalls(t, func(n int) float64 { return float64(n) / 2 }, func(n int) float64 { return float64(-n) })
	anyCalls(t, anything, anything)
	anyCalls(t, func(int) struct{} { return struct{}{} }, structure)
	cells := make([]int, 20)
	anyCalls(t, func(n int) *int { return &cells[n] }, func(n int) *int { return &cells[n%20] })
}

// P11.2 to P11.4 of a memo of many entries.
func TestManyEntries(t *testing.T) {
	g := rand.New(rand.NewPCG(11, 3))
	m, s := newMemo[int, int](t, 4096), &slow[int, int]{most: 4096}
	for range 20000 {
		c := someCall(g, 6000, 5000)
		if got, want := do(m, c, number, number), do(s, c, number, number); got != want {
			t.Fatalf("%v: %q, not %q", c, got, want)
		}
	}
	holdStand(t, m, stand(s))
	if m.Uses().Gone == 0 || m.Uses().Hits == 0 {
		t.Errorf("nothing went or nothing was met: %v", m.Uses())
	}
}

// P11.6: a key that was put, of which fewer than most unlike others were put or got since, is there; and there are never more than most.
func TestRecency(t *testing.T) {
	g := rand.New(rand.NewPCG(11, 6))
	for range 200 {
		most := 1 + g.IntN(6)
		m := newMemo[int, int](t, most)
		var used []int // keys that were put or got, the last one behind
		put := map[int]int{}
		for range 100 {
			k := g.IntN(2 * most)
			if g.IntN(2) == 0 {
				put[k] = g.IntN(1000)
				m.Put(k, put[k])
			} else {
				want, ok := put[k]
				v, there := m.Get(k)
				if ok && othersSince(used, k) < most && (!there || v != want) {
					t.Fatalf("most %d, behind %v: Get(%d): %d, %v, not %d", most, used, k, v, there, want)
				}
				if !there {
					delete(put, k)
					continue
				}
			}
			used = append(used, k)
			if m.Len() > most {
				t.Fatalf("%d entries of %d", m.Len(), most)
			}
		}
	}
}

// othersSince is how many unlike other keys were used behind the last use of a key.
func othersSince(used []int, k int) int {
	met := map[int]int{}
	for i := len(used) - 1; i >= 0 && used[i] != k; i-- {
		met[used[i]] = i
	}
	return len(met)
}

// P11.7: a memo with more room answers true wherever this one does, and the same.
func TestMoreRoom(t *testing.T) {
	g := rand.New(rand.NewPCG(11, 7))
	more := 0
	for range 300 {
		most := 1 + g.IntN(6)
		less, room := newMemo[string, int](t, most), newMemo[string, int](t, most+g.IntN(5))
		for range 80 {
			k, n := letter(g.IntN(10)), g.IntN(1000)
			switch g.IntN(3) {
			case 0:
				less.Put(k, n)
				room.Put(k, n)
				continue
			case 1:
				v, ok := less.Get(k)
				w, there := room.Get(k)
				if ok && (!there || v != w) {
					t.Fatalf("Get(%q): %d, but with more room %d, %v", k, v, w, there)
				}
				if there && !ok {
					more++
				}
			case 2:
				v, ok := less.Look(k)
				if w, there := room.Look(k); ok && (!there || v != w) {
					t.Fatalf("Look(%q): %d, but with more room %d, %v", k, v, w, there)
				}
			}
		}
	}
	if more == 0 {
		t.Error("more room never told more")
	}
}

// P11.8: Gone, the entries there are and those that were dropped are as many as Puts made.
func TestSum(t *testing.T) {
	g := rand.New(rand.NewPCG(11, 8))
	for range 300 {
		m := newMemo[string, int](t, 1+g.IntN(7))
		made, dropped := 0, 0
		for range 80 {
			switch c := someCall(g, 10, 5); c.name {
			case "Put":
				if _, ok := m.Look(letter(c.keys[0])); !ok {
					made++
				}
				do(m, c, letter, number)
			case "Drop":
				var keys []string
				for _, k := range c.keys {
					keys = append(keys, letter(k))
				}
				dropped += m.Drop(keys...)
			default:
				do(m, c, letter, number)
			}
			if m.Uses().Gone+m.Len()+dropped != made {
				t.Fatalf("%d gone, %d there, %d dropped, but %d made", m.Uses().Gone, m.Len(), dropped, made)
			}
		}
	}
}
