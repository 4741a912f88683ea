package deps_test

import (
	"reflect"
	"slices"
	"strings"
	"testing"
	"unsafe"

	"treadle/api"
	"treadle/deps"
	"treadle/view"
)

// span is where a piece of memory lies, its spare room with it.
type span struct {
	from, to uintptr
	// What nobody holds any more could make place for another answer.
	held unsafe.Pointer
}

func spanOf(s string) span {
	at := unsafe.Pointer(unsafe.StringData(s))
	return span{uintptr(at), uintptr(at) + uintptr(len(s)), at}
}

func spanOfList[T any](l []T) span {
	var x T
	at := unsafe.Pointer(unsafe.SliceData(l))
	return span{uintptr(at), uintptr(at) + uintptr(cap(l))*unsafe.Sizeof(x), at}
}

func (a span) meets(b span) bool { return a.from < b.to && b.from < a.to }

func textSpans(l []string) []span {
	all := []span{spanOfList(l)}
	for _, s := range l {
		all = append(all, spanOf(s))
	}
	return all
}

func unitSpans(l []api.Unit) []span {
	all := []span{spanOfList(l)}
	for _, u := range l {
		all = append(all, spanOf(u.Path), spanOf(u.Text), spanOfList(u.Includes))
		for _, in := range u.Includes {
			all = append(all, spanOf(in.Path), spanOf(in.Name))
		}
		all = append(all, textSpans(u.Needs)...)
	}
	return all
}

func diagSpans(l []api.Diag) []span {
	all := []span{spanOfList(l)}
	for _, x := range l {
		all = append(all, spanOf(x.Path))
	}
	return all
}

// given is what is handed in: views, texts, and rows with spare room behind their ends.
type given struct {
	good, bad              *view.View
	start, missing, needed string
	row, other             []api.Unit
}

func newGiven(t *testing.T) given {
	good := []api.Entry{f("main.m", inc("lib/one.m", "link.m", "lib/two.m")), f("lib/one.m", inc("./two.m", "lib/two.m")), f("lib/two.m", "const two = 2;"), l("link.m", "lib/one.m")}
	bad := []api.Entry{f("main.m", inc("lib/one.m", "none", "none", "main.m")), f("lib/one.m", inc("main.m", "lib"))}
	g := given{good: newView(t, good...), bad: newView(t, bad...), start: strings.Clone("main.m"), missing: strings.Clone("missing"), needed: strings.Clone("lib/two.m")}
	g.row, g.other = spread(units(t, "main.m", good...)), spread(units(t, "lib/one.m", good...))
	g.other[0].Whole[0]++
	return g
}

// spread gives all lists of a row spare room behind their ends, with something in it.
func spread(l []api.Unit) []api.Unit {
	for i, u := range l {
		l[i].Needs = append(slices.Clip(u.Needs), "spare", "room")[:len(u.Needs)]
		l[i].Includes = append(slices.Clip(u.Includes), api.Include{Path: "spare"}, api.Include{Path: "room"})[:len(u.Includes)]
	}
	return append(slices.Clip(l), api.Unit{Path: "spare", Needs: []string{"lib/two.m"}}, api.Unit{Path: "room"})[:len(l)]
}

// stretched is a row with all lists as long as their room.
func stretched(l []api.Unit) []api.Unit {
	l = slices.Clone(l[:cap(l)])
	for i, u := range l {
		l[i].Needs, l[i].Includes = u.Needs[:cap(u.Needs)], u.Includes[:cap(u.Includes)]
	}
	return l
}

func (g given) spans() []span {
	return slices.Concat(unitSpans(g.row[:cap(g.row)]), unitSpans(g.other[:cap(g.other)]), []span{spanOf(g.start), spanOf(g.missing), spanOf(g.needed)})
}

// answers are the memory of all that can be asked of what is given, and whether it is what it must be.
func (g given) answers() (all []span, good bool) {
	l, none := deps.Close(g.good, g.start, 9)
	no, told := deps.Close(g.bad, g.start, 9)
	_, missing := deps.Close(g.good, g.missing, 9)
	_, few := deps.Close(g.good, g.start, 0)
	users, changed := deps.Users(g.row, g.needed), deps.Changed(g.other, g.row)
	good = shown(l, none) == "lib/two.m; lib/one.m: lib/two.m lib/two.m; main.m: lib/one.m lib/one.m lib/two.m" && slices.EqualFunc(l, g.row, sameUnit) &&
		shown(no, told) == "{lib/one.m 160 0}; {lib/one.m 101 24}; {main.m 100 27}; {main.m 100 49}; {main.m 160 71}" && shown(nil, missing) == "{missing 100 0}" && shown(nil, few) == "{main.m 1 0}" &&
		slices.Equal(users, []string{"lib/one.m", "main.m"}) && slices.Equal(changed, []string{"lib/two.m", "main.m"}) &&
		deps.Right(g.row) && !deps.Right(g.other) && deps.Whole(g.row[0].Digest) == g.row[0].Whole
	all = slices.Concat(unitSpans(l), diagSpans(told), diagSpans(missing), diagSpans(few), textSpans(users), textSpans(changed))
	return all, good
}

// R4: an answer shares no memory with what was handed in, with what the views keep, with another answer, and within itself.
func TestAnswersAreNewMemory(t *testing.T) {
	g := newGiven(t)
	others := g.spans()
	var answered []span
	for range 2 {
		more, good := g.answers()
		if !good {
			t.Error("another answer")
		}
		answered = append(answered, more...)
	}
	for _, v := range []*view.View{g.good, g.bad} {
		for _, x := range v.Seen() {
			others = append(others, spanOf(x.Path))
		}
	}
	for i, a := range answered {
		if slices.ContainsFunc(others, a.meets) || slices.ContainsFunc(answered[:i], a.meets) {
			t.Errorf("memory that is shared: %d of %d", i, len(answered))
		}
	}
}

// R4: rows that are handed in stay as they are, the spare room of their lists too.
func TestRowsStay(t *testing.T) {
	g, same := newGiven(t), newGiven(t)
	needs := append(make([]api.Digest, 0, 4), api.Digest{1}, api.Digest{2})
	for range 2 {
		g.answers()
		deps.Users(g.row, "")
		deps.Right(g.row[:2])
		deps.Right(g.row[:cap(g.row)])
		deps.Changed(g.row, g.row)
		deps.Changed(nil, g.row[:cap(g.row)])
		deps.Users(g.row[:cap(g.row)], g.needed)
		deps.Whole(api.Digest{3}, needs...)
	}
	if !reflect.DeepEqual(stretched(g.row), stretched(same.row)) || !reflect.DeepEqual(stretched(g.other), stretched(same.other)) || g.start != same.start || g.needed != same.needed {
		t.Error(g)
	}
	if !slices.Equal(needs[:4], []api.Digest{{1}, {2}, {}, {}}) {
		t.Error(needs[:4])
	}
}

// R4: an answer is the caller's: whatever is changed in it, spare room too, changes no other one, and nothing of the view.
func TestTurnedAnswers(t *testing.T) {
	g := newGiven(t)
	for range 3 {
		if _, good := g.answers(); !good {
			t.Fatal("another answer")
		}
		l, _ := deps.Close(g.good, g.start, 9)
		_, told := deps.Close(g.bad, g.start, 9)
		users, changed := deps.Users(g.row, g.needed), deps.Changed(g.other, g.row)
		for _, u := range l {
			clear(u.Needs[:cap(u.Needs)])
			clear(u.Includes[:cap(u.Includes)])
		}
		clear(l[:cap(l)])
		clear(told[:cap(told)])
		clear(users[:cap(users)])
		clear(changed[:cap(changed)])
	}
}

// R4: what is handed in is not kept: a start's memory may become another text, and rows may be changed.
func TestNothingIsKept(t *testing.T) {
	g := newGiven(t)
	b := []byte("missing main.m lib/two.m")
	loose := func(from, to int) string { return unsafe.String(&b[from], to-from) }
	_, missing := deps.Close(g.good, loose(0, 7), 9)
	l, _ := deps.Close(g.good, loose(8, 14), 9)
	_, told := deps.Close(g.bad, loose(8, 14), 9)
	g.row[2].Path = loose(8, 14)
	users, changed := deps.Users(g.row, loose(15, 24)), deps.Changed(g.other, g.row)
	for i := range b {
		b[i] = '-'
	}
	clear(g.row)
	if shown(nil, missing) != "{missing 100 0}" || shown(l, nil) != "lib/two.m; lib/one.m: lib/two.m lib/two.m; main.m: lib/one.m lib/one.m lib/two.m" || told[4].Path != "main.m" || !slices.Equal(users, []string{"lib/one.m", "main.m"}) || !slices.Equal(changed, []string{"lib/two.m", "main.m"}) {
		t.Error(missing, l, told, users, changed)
	}
}

// R5: what a call answers hangs on its arguments alone: again, of a clone, and beside others.
func TestSameAnswers(t *testing.T) {
	r := newMaker(8, true)
	type asked struct {
		entries []api.Entry
		start   string
		most    int
		want    string
		seen    []api.Seen
	}
	var all []asked
	for range 200 {
		x := asked{entries: grown(t, r.entries()...), start: one(r.Rand, modulePaths...), most: 1 + r.IntN(9)}
		v := newView(t, x.entries...)
		x.want, x.seen = shown(deps.Close(v, x.start, x.most)), v.Seen()
		again, clone := shown(deps.Close(v, x.start, x.most)), v.Clone()
		if again != x.want || shown(deps.Close(clone, x.start, x.most)) != x.want || !slices.Equal(v.Seen(), x.seen) || !slices.Equal(clone.Seen(), x.seen) {
			t.Errorf("%s, not %s", again, x.want)
		}
		all = append(all, x)
	}
	ends := make(chan bool)
	for range 8 {
		go func() {
			good := true
			for _, x := range all {
				v, _ := view.New(x.entries)
				l, told := deps.Close(v, x.start, x.most)
				good = good && shown(l, told) == x.want && slices.Equal(v.Seen(), x.seen) && deps.Right(l) == (len(told) == 0)
				for _, p := range modulePaths {
					good = good && slices.Equal(deps.Users(l, p), slowUsers(l, p)) && len(deps.Changed(l, l)) == 0
				}
			}
			ends <- good
		}()
	}
	for range 8 {
		if !<-ends {
			t.Error("another answer")
		}
	}
}
