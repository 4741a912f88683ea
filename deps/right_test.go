package deps_test

import (
	"crypto/sha256"
	"fmt"
	"slices"
	"strings"
	"testing"

	"treadle/api"
	"treadle/deps"
	"treadle/scan"
)

// unit is one of a text, with the needs that it is said to have; its Whole is of units ahead of it.
func unit(ahead []api.Unit, p, text string, needs ...string) api.Unit {
	includes, _ := scan.Includes(text)
	return sealed(ahead, api.Unit{Path: p, Text: text, Includes: includes, Needs: needs})
}

// sealed is a unit with the digests that its text and its needs ask for.
func sealed(ahead []api.Unit, u api.Unit) api.Unit {
	u.Digest = sha256.Sum256([]byte(u.Text))
	var wholes []api.Digest
	for _, need := range u.Needs {
		if at := placeOf(ahead, need); at >= 0 {
			wholes = append(wholes, ahead[at].Whole)
		}
	}
	u.Whole = slowWhole(u.Digest, wholes...)
	return u
}

// sealedAll seals units from the first on.
func sealedAll(l []api.Unit) []api.Unit {
	for i := range l {
		l[i] = sealed(l[:i], l[i])
	}
	return l
}

// rightRow is a closure of four; the last one needs all others, so that none of them lacks who needs it when another one is changed.
func rightRow(t *testing.T) []api.Unit {
	return units(t, "a.m", f("a.m", inc("b.m", "lib/c.m", "b.m", "d.m")), f("b.m", inc("lib/c.m", "d.m")), f("lib/c.m", "const c = 1;"), f("d.m", ""))
}

func holdRight(t *testing.T, what string, l []api.Unit, want bool) {
	t.Helper()
	if got := deps.Right(l); got != want || slowRight(l) != want {
		t.Errorf("Right of %s: %v, not %v", what, got, want)
	}
}

// E2: Whole, of no needs and of some, in their order.
func TestWhole(t *testing.T) {
	a, b, c := api.Digest{1}, api.Digest{31: 2}, api.Digest(sha256.Sum256(nil))
	for _, needs := range [][]api.Digest{nil, {}, {a}, {b}, {a, b}, {b, a}, {a, a}, {a, b, c}, {c, b, a, {}}, {{}}, slices.Repeat([]api.Digest{a, c}, 5000)} {
		for _, d := range []api.Digest{{}, a, b, c} {
			if got := deps.Whole(d, needs...); got != slowWhole(d, needs...) {
				t.Errorf("Whole of %d needs: %x", len(needs), got)
			}
		}
	}
	// As another program tells it.
	if got := fmt.Sprintf("%x", deps.Whole(c)); got != "3bbfbfbd872aac0fdf5b1280070c7659b95c3d3f1543f8b89765ed15ac7c0ee7" {
		t.Error(got)
	}
	if deps.Whole(a, b) == deps.Whole(b, a) || deps.Whole(a) == deps.Whole(a, api.Digest{}) || deps.Whole(a, b, c) == deps.Whole(a, c, b) || deps.Whole(a) == a {
		t.Error("unlike ones have one Whole")
	}
}

// E2: rows that are right.
func TestRight(t *testing.T) {
	holdRight(t, "a closure", rightRow(t), true)
	holdRight(t, "one unit", units(t, "a.m", f("a.m", "")), true)
	holdRight(t, "one unit that is no module", []api.Unit{unit(nil, "a", "@ include")}, true)
	for i := range 4 {
		holdRight(t, "a part", rightRow(t)[:i], i == 1 || i == 3)
	}
	// The order is asked for no more than that needs stand ahead, nor where the includes' paths lead.
	c, d := unit(nil, "c", ""), unit(nil, "d", "")
	holdRight(t, "another order", []api.Unit{d, c, unit([]api.Unit{c, d}, "a", inc("c", "d"), "c", "d")}, true)
	holdRight(t, "other paths", []api.Unit{d, c, unit([]api.Unit{c, d}, "a", inc("../x", ""), "d", "c")}, true)
	holdRight(t, "one need of two includes", []api.Unit{c, unit([]api.Unit{c}, "a", inc("c", "d"), "c", "c")}, true)
	holdRight(t, "lists that are empty", []api.Unit{{Path: "a", Includes: []api.Include{}, Needs: []string{}, Digest: c.Digest, Whole: c.Whole}}, true)
	// There is no bound to how many there are.
	var many []api.Unit
	for i := range 500 {
		p, last := fmt.Sprintf("m%d", i), fmt.Sprintf("m%d", i-1)
		if i == 0 {
			many = append(many, unit(nil, p, ""))
		} else {
			many = append(many, unit(many, p, inc(last), last))
		}
	}
	holdRight(t, "many", many, true)
}

// E2: none, nil and of no length.
func TestRightOfNone(t *testing.T) {
	holdRight(t, "none", nil, false)
	holdRight(t, "none", []api.Unit{}, false)
	holdRight(t, "none", rightRow(t)[:0], false)
	holdRight(t, "a zero unit", []api.Unit{{}}, false)
}

// E2: a Path that is none, or the root, or stands twice.
func TestRightPaths(t *testing.T) {
	for _, p := range []string{"", "/", "/a", "a/", "a//b", ".", "..", "./a", "a/../b", "a b", "\x00", strings.Repeat("n", 65), strings.Repeat("d/", 32) + "f"} {
		holdRight(t, "a path that is none", []api.Unit{unit(nil, p, "")}, false)
		for i := range 4 {
			l := rightRow(t)
			was := l[i].Path
			for k := range l {
				for n, need := range l[k].Needs {
					if need == was {
						l[k].Needs[n] = p
					}
				}
			}
			l[i].Path = p
			holdRight(t, "a path that is none", sealedAll(l), false)
		}
	}
	for _, p := range []string{"a", "x/y/z", strings.Repeat("n", 64), strings.Repeat("d/", 31) + "f", "...", "-"} {
		holdRight(t, "a path", []api.Unit{unit(nil, p, "")}, true)
	}
	// Two alike, both of them needed.
	b := unit(nil, "b", "")
	holdRight(t, "two alike", []api.Unit{b, b, unit([]api.Unit{b}, "a", inc("b", "b"), "b", "b")}, false)
	other := unit(nil, "b", "// other")
	holdRight(t, "two alike", []api.Unit{b, unit([]api.Unit{b}, "a", inc("b"), "b"), other, unit([]api.Unit{b}, "c", inc("b", "a"), "b", "a")}, false)
	holdRight(t, "two alike", []api.Unit{b, unit([]api.Unit{b}, "b", inc("b"), "b")}, false)
	last := rightRow(t)
	holdRight(t, "the last one twice", append(last, last[3]), false)
}

// E2: Includes that are not the Text's, and a Text whose includes have a fault.
func TestRightIncludes(t *testing.T) {
	for name, change := range map[string]func(u *api.Unit){
		"another path":  func(u *api.Unit) { u.Includes[0].Path += "x" },
		"another name":  func(u *api.Unit) { u.Includes[1].Name = "other" },
		"another place": func(u *api.Unit) { u.Includes[1].At++ },
		"another order": func(u *api.Unit) { slices.Reverse(u.Includes) },
		"another text":  func(u *api.Unit) { u.Text = " " + u.Text },
		"another include in the text": func(u *api.Unit) {
			u.Text = strings.Replace(u.Text, "c.m", "c.x", 1)
		},
		"a text of none": func(u *api.Unit) { u.Text = "" },
		"one too few":    func(u *api.Unit) { u.Includes, u.Needs = u.Includes[:1], u.Needs[:1] },
		"one too many": func(u *api.Unit) {
			u.Includes, u.Needs = append(u.Includes, u.Includes[0]), append(u.Needs, u.Needs[0])
		},
		"none":          func(u *api.Unit) { u.Includes = nil },
		"a fault":       func(u *api.Unit) { u.Text += "include" },
		"a fault alone": func(u *api.Unit) { u.Text, u.Includes, u.Needs = "include @", nil, nil },
		"a long text":   func(u *api.Unit) { u.Text += strings.Repeat(" ", 65536) },
		"a long one":    func(u *api.Unit) { u.Text, u.Includes, u.Needs = strings.Repeat(" ", 65537), nil, nil },
	} {
		l := rightRow(t)
		change(&l[placeOf(l, "b.m")])
		holdRight(t, name, sealedAll(l), false)
		// Of the last one, too.
		l = []api.Unit{unit(nil, "b", ""), {}}
		l[1] = unit(l[:1], "a", inc("c.m", "c.m"), "b", "b")
		change(&l[1])
		holdRight(t, name, sealedAll(l), false)
	}
	full := []api.Unit{unit(nil, "a", strings.Repeat(" ", 65536))}
	holdRight(t, "a text as long as can be", full, true)
}

// E2: Needs that are not as many as the Includes, or stand behind, or nowhere, or are the unit's own.
func TestRightNeeds(t *testing.T) {
	for name, change := range map[string]func(u *api.Unit){
		"one too few":        func(u *api.Unit) { u.Needs = u.Needs[:1] },
		"one too many":       func(u *api.Unit) { u.Needs = append(u.Needs, "d.m") },
		"one too many ahead": func(u *api.Unit) { u.Needs = append([]string{"d.m"}, u.Needs...) },
		"none":               func(u *api.Unit) { u.Needs = nil },
		"one behind":         func(u *api.Unit) { u.Needs[0] = "a.m" },
		"itself":             func(u *api.Unit) { u.Needs[1] = "b.m" },
		"no unit's":          func(u *api.Unit) { u.Needs[0] = "x.m" },
		"the written one":    func(u *api.Unit) { u.Needs[0] = "./lib/c.m" },
		"the root":           func(u *api.Unit) { u.Needs[1] = "" },
	} {
		l := rightRow(t)
		change(&l[placeOf(l, "b.m")])
		holdRight(t, name, sealedAll(l), false)
	}
	// The order of the needs has its part in Whole alone.
	l := rightRow(t)
	slices.Reverse(l[2].Needs)
	holdRight(t, "needs turned round", l, false)
	holdRight(t, "needs turned round, and sealed", sealedAll(l), true)
}

// E2: every unit but the last is needed by one behind it.
func TestRightNeeded(t *testing.T) {
	stray := unit(nil, "stray", "")
	for i := range 5 {
		holdRight(t, "a stray", slices.Insert(rightRow(t), i, stray), false)
	}
	l := rightRow(t)
	holdRight(t, "two roots", append(l, unit(l, "z", inc("b.m"), "b.m")), false)
	holdRight(t, "two roots", append(l, unit(l, "z", "")), false)
	holdRight(t, "one more", append(l, unit(l, "z", inc("a.m"), "a.m")), true)
	holdRight(t, "strays alone", []api.Unit{stray, unit(nil, "z", "")}, false)
}

// E2: another Digest or Whole, of each unit, in each bit of some bytes.
func TestRightDigests(t *testing.T) {
	for i := range 4 {
		for _, at := range []int{0, 1, 15, 31} {
			for bit := range 8 {
				l := rightRow(t)
				l[i].Digest[at] ^= 1 << bit
				holdRight(t, "another Digest", l, false)
				// With all the Wholes that come of it.
				for k := range l {
					digest := l[k].Digest
					l[k] = sealed(l[:k], l[k])
					l[k].Digest = digest
					l[k].Whole = slowWhole(digest, wholesOf(l[:k], l[k].Needs)...)
				}
				holdRight(t, "another Digest, sealed", l, false)
				l = rightRow(t)
				l[i].Whole[at] ^= 1 << bit
				holdRight(t, "another Whole", l, false)
				for k := i + 1; k < len(l); k++ {
					l[k] = sealed(l[:k], l[k])
				}
				holdRight(t, "another Whole, sealed", l, false)
			}
		}
	}
	l := rightRow(t)
	for i := range l {
		l[i].Whole = l[i].Digest
	}
	holdRight(t, "Wholes that are Digests", l, false)
}

func wholesOf(ahead []api.Unit, needs []string) []api.Digest {
	var wholes []api.Digest
	for _, need := range needs {
		wholes = append(wholes, ahead[placeOf(ahead, need)].Whole)
	}
	return wholes
}

// E2 at rows in which some things are changed by chance.
func TestRandomRows(t *testing.T) {
	r := newMaker(2, false)
	right, wrong := 0, 0
	for range 6000 {
		l, told := deps.Close(newView(t, r.entries()...), one(r.Rand, modulePaths...), 9)
		if len(told) > 0 {
			continue
		}
		holdRight(t, "a closure", l, true)
		for range r.IntN(3) {
			r.change(l)
		}
		if r.IntN(3) > 0 {
			sealedAll(l)
		}
		if r.IntN(5) == 0 {
			l = l[r.IntN(len(l)):]
		}
		want := slowRight(l)
		holdRight(t, shown(l, nil), l, want)
		if want {
			right++
		} else {
			wrong++
		}
	}
	if right < 500 || wrong < 500 {
		t.Error("too few of a kind:", right, wrong)
	}
}

// change changes something of a unit.
func (r maker) change(l []api.Unit) {
	u, other := &l[r.IntN(len(l))], &l[r.IntN(len(l))]
	switch r.IntN(8) {
	case 0:
		u.Path = one(r.Rand, append(modulePaths, "", "a//b", "x")...)
	case 1:
		*u, *other = *other, *u
	case 2:
		for i := range u.Needs {
			u.Needs[i] = other.Path
		}
	case 3:
		u.Text += one(r.Rand, " ", "include", "// x", inc("a.m"))
	case 4:
		u.Includes, _ = scan.Includes(u.Text)
		slices.Reverse(u.Needs)
	case 5:
		*u = *other
	case 6:
		u.Digest[r.IntN(32)]++
	case 7:
		u.Whole[r.IntN(32)]++
	}
}
