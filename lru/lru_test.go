package lru_test

import (
	"fmt"
	"math"
	"slices"
	"testing"

	"treadle/api"
	"treadle/lru"
)

func holdStand[K comparable, V any](t *testing.T, m memo[K, V], want string) {
	t.Helper()
	if got := stand(m); got != want {
		t.Errorf("it stands as %q, not %q", got, want)
	}
}

// P11.1 to P11.4, the chapter's first example.
func TestExample(t *testing.T) {
	m := newMemo[string, int](t, 2)
	if k, ok := m.Put("a", 1); k != "" || ok {
		t.Errorf("Put a: %q, %v", k, ok)
	}
	m.Put("b", 2)
	if v, ok := m.Get("a"); v != 1 || !ok {
		t.Errorf("Get a: %d, %v", v, ok)
	}
	if k, ok := m.Put("c", 3); k != "b" || !ok {
		t.Errorf("Put c: %q, %v", k, ok)
	}
	if v, ok := m.Look("b"); v != 0 || ok {
		t.Errorf("Look b: %d, %v", v, ok)
	}
	holdStand(t, m, "2 of 2 {1 0 1}: c 3, a 1")
	if k, ok := m.Put("a", 9); k != "" || ok {
		t.Errorf("Put a again: %q, %v", k, ok)
	}
	holdStand(t, m, "2 of 2 {1 0 1}: a 9, c 3")
	if l, e := m.Resize(1); !slices.Equal(l, []string{"c"}) || e != api.OK {
		t.Errorf("Resize 1: %q, %v", l, e)
	}
	if n := m.Drop("a", "a", "b"); n != 1 {
		t.Errorf("Drop: %d", n)
	}
	holdStand(t, m, "0 of 1 {1 0 2}: ")
}

// P11.1, the chapter's second example among it.
func TestNew(t *testing.T) {
	for _, most := range []int{math.MinInt, -4096, -1, 0, 4097, api.MaxMemo + 1, 1 << 40, math.MaxInt} {
		if m, e := lru.New[int, int](most); m != nil || e != api.ErrArg {
			t.Errorf("New(%d): %v, %v", most, m, e)
		}
	}
	for _, most := range []int{1, 2, 3, 100, 4095, 4096} {
		holdStand(t, newMemo[int, int](t, most), fmt.Sprintf("0 of %d {0 0 0}: ", most))
	}
}

// P11.1: a memo holds just as many as it was made for, and the most that may be.
func TestAsManyAsMost(t *testing.T) {
	for _, most := range []int{1, 2, 3, 4095, api.MaxMemo} {
		m := newMemo[int, int](t, most)
		for i := range most {
			if k, ok := m.Put(i+1, -i); k != 0 || ok {
				t.Fatalf("most %d: Put %d: %d, %v", most, i+1, k, ok)
			}
		}
		if m.Len() != most || m.Uses().Gone != 0 {
			t.Errorf("most %d: %d entries, %v", most, m.Len(), m.Uses())
		}
		for i := range most {
			if k, ok := m.Put(-i-1, i); k != i+1 || !ok {
				t.Fatalf("most %d: Put %d: %d, %v", most, -i-1, k, ok)
			}
			if m.Len() != most || m.Uses().Gone != i+1 {
				t.Fatalf("most %d: %d entries, %v", most, m.Len(), m.Uses())
			}
		}
	}
}

// P11.2: of a memo of one entry the one goes at each Put of another key.
func TestMostOne(t *testing.T) {
	m := newMemo[string, int](t, 1)
	m.Put("a", 1)
	m.Put("a", 2)
	holdStand(t, m, "1 of 1 {0 0 0}: a 2")
	if k, ok := m.Put("b", 3); k != "a" || !ok {
		t.Errorf("Put b: %q, %v", k, ok)
	}
	if v, ok := m.Get("a"); v != 0 || ok {
		t.Errorf("Get a: %d, %v", v, ok)
	}
	if v, ok := m.Get("b"); v != 3 || !ok {
		t.Errorf("Get b: %d, %v", v, ok)
	}
	holdStand(t, m, "1 of 1 {1 1 1}: b 3")
}

// P11.2: Get, Look and Put of the newest, of the oldest and of one between, with what each leaves.
func TestEachPlace(t *testing.T) {
	for _, c := range []struct {
		call   call
		answer string
		stand  string
	}{
		{call{"Get", []int{1}, 0}, "10 true", "3 of 3 {1 0 0}: a 10, c 30, b 20"},
		{call{"Get", []int{2}, 0}, "20 true", "3 of 3 {1 0 0}: b 20, c 30, a 10"},
		{call{"Get", []int{3}, 0}, "30 true", "3 of 3 {1 0 0}: c 30, b 20, a 10"},
		{call{"Get", []int{4}, 0}, "0 false", "3 of 3 {0 1 0}: c 30, b 20, a 10"},
		{call{"Look", []int{1}, 0}, "10 true", "3 of 3 {0 0 0}: c 30, b 20, a 10"},
		{call{"Look", []int{2}, 0}, "20 true", "3 of 3 {0 0 0}: c 30, b 20, a 10"},
		{call{"Look", []int{3}, 0}, "30 true", "3 of 3 {0 0 0}: c 30, b 20, a 10"},
		{call{"Look", []int{4}, 0}, "0 false", "3 of 3 {0 0 0}: c 30, b 20, a 10"},
		{call{"Put", []int{1}, 99}, " false", "3 of 3 {0 0 0}: a 99, c 30, b 20"},
		{call{"Put", []int{2}, 99}, " false", "3 of 3 {0 0 0}: b 99, c 30, a 10"},
		{call{"Put", []int{3}, 99}, " false", "3 of 3 {0 0 0}: c 99, b 20, a 10"},
		{call{"Put", []int{4}, 99}, "a true", "3 of 3 {0 0 1}: d 99, c 30, b 20"},
	} {
		m := newMemo[string, int](t, 3)
		m.Put("a", 10)
		m.Put("b", 20)
		m.Put("c", 30)
		if got := do(m, c.call, letter, number); got != c.answer {
			t.Errorf("%v: %q, not %q", c.call, got, c.answer)
		}
		holdStand(t, m, c.stand)
	}
}

// P11.2: with room a Put of another key lets nothing go, and the zero key and the zero value are as good as others.
func TestZeroKeyAndValue(t *testing.T) {
	m := newMemo[string, int](t, 2)
	if v, ok := m.Get(""); v != 0 || ok {
		t.Errorf("Get of an empty memo: %d, %v", v, ok)
	}
	if k, ok := m.Put("", 0); k != "" || ok {
		t.Errorf("Put: %q, %v", k, ok)
	}
	if v, ok := m.Get(""); v != 0 || !ok {
		t.Errorf("Get: %d, %v", v, ok)
	}
	if v, ok := m.Look(""); v != 0 || !ok {
		t.Errorf("Look: %d, %v", v, ok)
	}
	m.Put("a", 1)
	if k, ok := m.Put("b", 2); k != "" || !ok {
		t.Errorf("Put b: %q, %v", k, ok)
	}
	holdStand(t, m, "2 of 2 {1 1 1}: b 2, a 1")
	m.Put("", 0)
	if l, e := m.Resize(1); !slices.Equal(l, []string{"b"}) || e != api.OK {
		t.Errorf("Resize: %q, %v", l, e)
	}
	if n := m.Drop(""); n != 1 {
		t.Errorf("Drop: %d", n)
	}
	if n := m.Drop(""); n != 0 {
		t.Errorf("Drop again: %d", n)
	}
}

// full is a memo of 4 with the entries d to a, the newest first.
func full(t *testing.T) *lru.Memo[string, int] {
	m := newMemo[string, int](t, 4)
	for i := range 4 {
		m.Put(letter(i+1), i+1)
	}
	return m
}

// P11.3: Drop.
func TestDrop(t *testing.T) {
	for _, c := range []struct {
		keys  []string
		n     int
		stand string
	}{
		{nil, 0, "4 of 4 {0 0 0}: d 4, c 3, b 2, a 1"},
		{[]string{"x", "", "x"}, 0, "4 of 4 {0 0 0}: d 4, c 3, b 2, a 1"},
		{[]string{"a"}, 1, "3 of 4 {0 0 0}: d 4, c 3, b 2"},
		{[]string{"d"}, 1, "3 of 4 {0 0 0}: c 3, b 2, a 1"},
		{[]string{"b", "b"}, 1, "3 of 4 {0 0 0}: d 4, c 3, a 1"},
		{[]string{"b", "x", "c", "b", "c"}, 2, "2 of 4 {0 0 0}: d 4, a 1"},
		{[]string{"c", "a", "d", "b"}, 4, "0 of 4 {0 0 0}: "},
		{[]string{"a", "b", "c", "d", "e", "a", "b", "c", "d"}, 4, "0 of 4 {0 0 0}: "},
	} {
		m := full(t)
		if n := m.Drop(c.keys...); n != c.n {
			t.Errorf("Drop(%q): %d, not %d", c.keys, n, c.n)
		}
		holdStand(t, m, c.stand)
		for _, k := range c.keys {
			if v, ok := m.Look(k); v != 0 || ok {
				t.Errorf("Drop(%q): %q is still there", c.keys, k)
			}
		}
		if n := m.Drop(c.keys...); n != 0 {
			t.Errorf("Drop(%q) again: %d", c.keys, n)
		}
	}
}

// P11.3: what was dropped leaves room, and may be put once more.
func TestPutBehindDrop(t *testing.T) {
	m := full(t)
	m.Drop("b")
	if k, ok := m.Put("e", 5); k != "" || ok {
		t.Errorf("Put e: %q, %v", k, ok)
	}
	if k, ok := m.Put("b", 6); k != "a" || !ok {
		t.Errorf("Put b: %q, %v", k, ok)
	}
	holdStand(t, m, "4 of 4 {0 0 1}: b 6, e 5, d 4, c 3")
}

// P11.3: Resize to fewer, to as many, to more, to one; and to what New refuses, which changes nothing (R2).
func TestResize(t *testing.T) {
	for _, c := range []struct {
		most  int
		keys  []string
		e     api.Errno
		stand string
	}{
		{3, []string{"a"}, api.OK, "3 of 3 {0 0 1}: d 4, c 3, b 2"},
		{2, []string{"a", "b"}, api.OK, "2 of 2 {0 0 2}: d 4, c 3"},
		{1, []string{"a", "b", "c"}, api.OK, "1 of 1 {0 0 3}: d 4"},
		{4, nil, api.OK, "4 of 4 {0 0 0}: d 4, c 3, b 2, a 1"},
		{5, nil, api.OK, "4 of 5 {0 0 0}: d 4, c 3, b 2, a 1"},
		{4096, nil, api.OK, "4 of 4096 {0 0 0}: d 4, c 3, b 2, a 1"},
		{4097, nil, api.ErrArg, "4 of 4 {0 0 0}: d 4, c 3, b 2, a 1"},
		{0, nil, api.ErrArg, "4 of 4 {0 0 0}: d 4, c 3, b 2, a 1"},
		{-1, nil, api.ErrArg, "4 of 4 {0 0 0}: d 4, c 3, b 2, a 1"},
		{math.MinInt, nil, api.ErrArg, "4 of 4 {0 0 0}: d 4, c 3, b 2, a 1"},
		{math.MaxInt, nil, api.ErrArg, "4 of 4 {0 0 0}: d 4, c 3, b 2, a 1"},
	} {
		m := full(t)
		if l, e := m.Resize(c.most); !slices.Equal(l, c.keys) || e != c.e {
			t.Errorf("Resize(%d): %q, %v", c.most, l, e)
		}
		holdStand(t, m, c.stand)
	}
}

// P11.3: from then on it keeps as many as Resize said.
func TestPutBehindResize(t *testing.T) {
	m := full(t)
	m.Resize(5)
	if k, ok := m.Put("e", 5); k != "" || ok {
		t.Errorf("Put e: %q, %v", k, ok)
	}
	if k, ok := m.Put("f", 6); k != "a" || !ok {
		t.Errorf("Put f: %q, %v", k, ok)
	}
	m.Resize(2)
	if k, ok := m.Put("g", 7); k != "e" || !ok {
		t.Errorf("Put g: %q, %v", k, ok)
	}
	holdStand(t, m, "2 of 2 {0 0 5}: g 7, f 6")
	few := newMemo[string, int](t, 4)
	few.Put("a", 1)
	if l, e := few.Resize(2); len(l) != 0 || e != api.OK {
		t.Errorf("Resize of what has room: %q, %v", l, e)
	}
	holdStand(t, few, "1 of 2 {0 0 0}: a 1")
}

// P11.4, R4: All tells what there was when it was asked for; it may be left early, gone over again, and nested.
func TestAll(t *testing.T) {
	m := full(t)
	all := m.All()
	for k := range all {
		if k != "d" {
			t.Errorf("the first one is %q", k)
		}
		break
	}
	seen := ""
	for k, v := range all {
		for l, w := range all {
			seen += fmt.Sprint(k, v, l, w, " ")
			if l == "c" {
				break
			}
		}
		if k == "b" {
			break
		}
	}
	if want := "d4d4 d4c3 c3d4 c3c3 b2d4 b2c3 "; seen != want {
		t.Errorf("nested: %q, not %q", seen, want)
	}
	for range 2 {
		if got := told(all); got != "d 4, c 3, b 2, a 1" {
			t.Errorf("gone over again: %q", got)
		}
	}
	if got := told(newMemo[int, int](t, 3).All()); got != "" {
		t.Errorf("of an empty one: %q", got)
	}
	holdStand(t, m, "4 of 4 {0 0 0}: d 4, c 3, b 2, a 1")
}

// P11.4: what is done between All and its going over, and amid that, is not told.
func TestAllStays(t *testing.T) {
	turns := map[string]func(m *lru.Memo[string, int]){
		"put":        func(m *lru.Memo[string, int]) { m.Put("e", 5) },
		"put again":  func(m *lru.Memo[string, int]) { m.Put("b", 9) },
		"got":        func(m *lru.Memo[string, int]) { m.Get("a") },
		"dropped":    func(m *lru.Memo[string, int]) { m.Drop("d", "a", "c") },
		"dropped b":  func(m *lru.Memo[string, int]) { m.Drop("b") },
		"resized":    func(m *lru.Memo[string, int]) { m.Resize(1) },
		"made more":  func(m *lru.Memo[string, int]) { m.Resize(9); m.Put("e", 5); m.Put("f", 6) },
		"taken anew": func(m *lru.Memo[string, int]) { m.Drop("a", "b", "c", "d"); m.Put("a", 7); m.Put("z", 8) },
	}
	for name, turn := range turns {
		ahead := full(t)
		all := ahead.All()
		turn(ahead)
		if got := told(all); got != "d 4, c 3, b 2, a 1" {
			t.Errorf("%s ahead: %q", name, got)
		}
		for at := range 4 {
			amid, got, n := full(t), "", 0
			all := amid.All()
			for k, v := range all {
				got += fmt.Sprint(k, v)
				if n == at {
					turn(amid)
				}
				n++
			}
			if got != "d4c3b2a1" || told(all) != "d 4, c 3, b 2, a 1" {
				t.Errorf("%s amid, at %d: %q", name, at, got)
			}
			if stand(amid) != stand(ahead) {
				t.Errorf("%s amid, at %d: it stands as %q, not %q", name, at, stand(amid), stand(ahead))
			}
		}
	}
}

// P11.2 to P11.4: the three counts behind every call.
func TestUses(t *testing.T) {
	m := newMemo[string, int](t, 2)
	for _, c := range []struct {
		call call
		want api.Uses
	}{
		{call{"Get", []int{1}, 0}, api.Uses{Misses: 1}},
		{call{"Look", []int{1}, 0}, api.Uses{Misses: 1}},
		{call{"Put", []int{1}, 1}, api.Uses{Misses: 1}},
		{call{"Put", []int{1}, 2}, api.Uses{Misses: 1}},
		{call{"Look", []int{1}, 0}, api.Uses{Misses: 1}},
		{call{"Get", []int{1}, 0}, api.Uses{Hits: 1, Misses: 1}},
		{call{"Get", []int{1}, 0}, api.Uses{Hits: 2, Misses: 1}},
		{call{"Put", []int{2}, 1}, api.Uses{Hits: 2, Misses: 1}},
		{call{"Put", []int{3}, 1}, api.Uses{Hits: 2, Misses: 1, Gone: 1}},
		{call{"Get", []int{1}, 0}, api.Uses{Hits: 2, Misses: 2, Gone: 1}},
		{call{"Drop", []int{2, 4}, 0}, api.Uses{Hits: 2, Misses: 2, Gone: 1}},
		{call{"Get", []int{2}, 0}, api.Uses{Hits: 2, Misses: 3, Gone: 1}},
		{call{"Put", []int{5}, 1}, api.Uses{Hits: 2, Misses: 3, Gone: 1}},
		{call{"Resize", nil, 0}, api.Uses{Hits: 2, Misses: 3, Gone: 1}},
		{call{"Resize", nil, 1}, api.Uses{Hits: 2, Misses: 3, Gone: 2}},
		{call{"Resize", nil, 9}, api.Uses{Hits: 2, Misses: 3, Gone: 2}},
	} {
		do(m, c.call, letter, number)
		if got := m.Uses(); got != c.want {
			t.Fatalf("behind %v: %v, not %v", c.call, got, c.want)
		}
	}
	m.Len()
	m.Most()
	told(m.All())
	m.Copy().Get("e")
	if got := m.Uses(); got != (api.Uses{Hits: 2, Misses: 3, Gone: 2}) {
		t.Errorf("behind calls that ask alone: %v", got)
	}
}

// P11.4, R5: a copy stands as the memo does, and neither turns the other.
func TestCopy(t *testing.T) {
	m := full(t)
	m.Get("b")
	m.Get("x")
	m.Put("e", 5)
	const was = "4 of 4 {1 1 1}: e 5, b 2, d 4, c 3"
	turns := []call{{"Get", []int{3}, 0}, {"Get", []int{9}, 0}, {"Put", []int{4}, 77}, {"Put", []int{9}, 88}, {"Drop", []int{2}, 0}, {"Resize", nil, 2}, {"Resize", nil, 12}, {"Drop", []int{1, 2, 3, 4, 5}, 0}}
	for _, turn := range turns {
		c := m.Copy()
		holdStand(t, c, was)
		do(c, turn, letter, number)
		holdStand(t, m, was)
		first, second := m.Copy(), m.Copy().Copy()
		do(first, turn, letter, number)
		holdStand(t, second, was)
		holdStand(t, first, stand(c))
		do(second, turn, letter, number)
		holdStand(t, second, stand(c))
	}
	c := m.Copy()
	for _, turn := range turns {
		do(m, turn, letter, number)
		holdStand(t, c, was)
	}
	holdStand(t, newMemo[int, int](t, 7).Copy(), "0 of 7 {0 0 0}: ")
}

// P11.5, R1: a memo that no call made, in every call.
func TestNoMemo(t *testing.T) {
	for name, m := range map[string]*lru.Memo[string, int]{"nil": nil, "plain": {}, "new": new(lru.Memo[string, int])} {
		for range 2 {
			if v, ok := m.Get("a"); v != 0 || ok {
				t.Errorf("%s: Get: %d, %v", name, v, ok)
			}
			if v, ok := m.Look("a"); v != 0 || ok {
				t.Errorf("%s: Look: %d, %v", name, v, ok)
			}
			if k, ok := m.Put("a", 1); k != "" || ok {
				t.Errorf("%s: Put: %q, %v", name, k, ok)
			}
			if n := m.Drop("a", "b"); n != 0 {
				t.Errorf("%s: Drop: %d", name, n)
			}
			for _, most := range []int{-1, 0, 1, 4096, 4097} {
				if l, e := m.Resize(most); len(l) != 0 || e != api.ErrNil {
					t.Errorf("%s: Resize(%d): %q, %v", name, most, l, e)
				}
			}
			if c := m.Copy(); c != nil {
				t.Errorf("%s: Copy: %v", name, c)
			}
			holdStand(t, m, "0 of 0 {0 0 0}: ")
		}
	}
}

// P11.5, R1: the zero memo of other types.
func TestNoMemoOfOtherTypes(t *testing.T) {
	var m lru.Memo[[2]any, []byte]
	if v, ok := m.Get([2]any{}); v != nil || ok {
		t.Errorf("Get: %v, %v", v, ok)
	}
	if k, ok := m.Put([2]any{1, 2}, []byte("a")); k != [2]any{} || ok {
		t.Errorf("Put: %v, %v", k, ok)
	}
	holdStand(t, &m, "0 of 0 {0 0 0}: ")
}

// others is that a memo keeps its word to other keys, whatever is done with one that is promised nothing.
func others[K comparable](t *testing.T, odd, one, two K) {
	t.Helper()
	m := newMemo[K, int](t, 2)
	m.Put(one, 1)
	for range 3 {
		m.Get(odd)
		m.Look(odd)
		m.Put(odd, 3)
		m.Drop(odd, odd)
		m.Copy().Put(odd, 4)
	}
	m.Put(two, 2)
	if m.Len() > m.Most() {
		t.Errorf("%d entries of %d", m.Len(), m.Most())
	}
	if l, e := m.Resize(1); len(l) > 1 || e != api.OK {
		t.Errorf("Resize: %v, %v", l, e)
	}
	if v, ok := m.Get(two); v != 2 || !ok {
		t.Errorf("Get: %d, %v", v, ok)
	}
	if n := m.Drop(two, odd); n != 1 || m.Len() != 0 {
		t.Errorf("Drop: %d of %d", n, m.Len())
	}
	told(m.All())
}

// R1: a key that is not the same as itself, or that can't be compared with itself, ends no memo.
func TestOddKeys(t *testing.T) {
	none := math.NaN()
	others(t, none, 1, 2)
	others(t, [2]float64{1, none}, [2]float64{}, [2]float64{1, 1})
	others(t, complex(none, 0), 1, 2)
	others(t, struct{ f float32 }{float32(none)}, struct{ f float32 }{}, struct{ f float32 }{1})
	others[any](t, none, nil, "two")
	others[any](t, []int{1}, nil, "two")
	others[any](t, map[int]int{}, 1, int64(1))
	others[any](t, func() {}, 1, both{})
	others[any](t, struct{ l []int }{}, 1, both{})
	others(t, [2]any{1, []int{}}, [2]any{}, [2]any{1, 1})
}
