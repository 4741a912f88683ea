package lru_test

import (
	"slices"
	"testing"

	"treadle/api"
	"treadle/lru"
)

// roomy is a list of keys with spare room behind its end.
func roomy(keys ...string) []string {
	l := make([]string, len(keys), len(keys)+4)
	copy(l, keys)
	for i := range spare(l) {
		spare(l)[i] = "spare"
	}
	return l
}

func spare(l []string) []string { return l[len(l):cap(l)] }

// R4: the keys of a Drop are neither changed nor kept, nor what lies behind them.
func TestDropKeepsNoList(t *testing.T) {
	m := full(t)
	l := roomy("b", "x", "b", "d")
	if n := m.Drop(l...); n != 2 {
		t.Errorf("Drop: %d", n)
	}
	if !slices.Equal(l, []string{"b", "x", "b", "d"}) || slices.ContainsFunc(spare(l), func(s string) bool { return s != "spare" }) {
		t.Errorf("Drop changed what it was handed: %q", l[:cap(l)])
	}
	all := m.All()
	for i := range l[:cap(l)] {
		l[:cap(l)][i] = "a"
	}
	holdStand(t, m, "2 of 4 {0 0 0}: c 3, a 1")
	if got := told(all); got != "c 3, a 1" {
		t.Errorf("All: %q", got)
	}
}

// R4: the keys of a Resize are new memory, spare room too.
func TestResizeIsNew(t *testing.T) {
	m := full(t)
	c, all := m.Copy(), m.All()
	first, e := m.Resize(2)
	if e != api.OK || !slices.Equal(first, []string{"a", "b"}) {
		t.Fatalf("Resize: %q, %v", first, e)
	}
	second, _ := m.Resize(1)
	third, _ := c.Resize(2)
	for _, l := range [][]string{first, second, third} {
		for i := range l[:cap(l)] {
			l[:cap(l)][i] = "#"
		}
		_ = append(l, "#")
	}
	holdStand(t, m, "1 of 1 {0 0 3}: d 4")
	holdStand(t, c, "2 of 2 {0 0 2}: d 4, c 3")
	if got := told(all); got != "d 4, c 3, b 2, a 1" {
		t.Errorf("All: %q", got)
	}
	again := full(t)
	one, _ := again.Resize(2)
	if two, _ := full(t).Resize(2); len(one) != 2 || len(two) != 2 || &one[0] == &two[0] {
		t.Errorf("two answers share memory: %q, %q", one, two)
	}
}

// R4: keys and values that are structs and arrays are kept as they were when they were put.
func TestPartsAreValues(t *testing.T) {
	m := newMemo[[2]int, both](t, 3)
	k, v := [2]int{1, 2}, both{3, "c"}
	m.Put(k, v)
	k[0], v.n = 9, 9
	got, ok := m.Get([2]int{1, 2})
	if !ok || got != (both{3, "c"}) {
		t.Errorf("Get: %v, %v", got, ok)
	}
	got.text = "turned"
	for l, w := range m.All() {
		l[1], w.n = 8, 8
	}
	holdStand(t, m, "1 of 3 {1 0 0}: [1 2] {3 c}")
}

// R5: two memos of one type know nothing of one another.
func TestMemosApart(t *testing.T) {
	m, n := full(t), full(t)
	other := newMemo[string, string](t, 4)
	other.Put("a", "other")
	m.Get("a")
	m.Put("z", 26)
	m.Drop("c")
	m.Resize(1)
	holdStand(t, n, "4 of 4 {0 0 0}: d 4, c 3, b 2, a 1")
	holdStand(t, other, "1 of 4 {0 0 0}: a other")
}

// R5: the same calls are answered alike, time after time.
func TestSameCallsSameAnswers(t *testing.T) {
	run := func() (string, *lru.Memo[int, int]) {
		m := newMemo[int, int](t, 64)
		for i := range 500 {
			m.Put(i*7919%200, i)
			m.Get(i * 31 % 200)
		}
		return stand(m), m
	}
	first, m := run()
	for range 20 {
		if again, _ := run(); again != first {
			t.Fatalf("%q, then %q", first, again)
		}
		holdStand(t, m.Copy(), first)
	}
}
