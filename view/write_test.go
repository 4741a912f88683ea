package view_test

import (
	"fmt"
	"strings"
	"testing"

	"treadle/api"
	"treadle/view"
)

// W2, W3: the chapter's third example.
func TestThirdExample(t *testing.T) {
	v := newView(t, example()...)
	hold(t, "Write", v.Write("a/new", "n"), api.OK)
	holdDo(t, v, "Read", "a/new", `"n" 0`)
	holdList(t, "Outputs", v.Outputs(), row(f("a/new", "n")))
	holdDo(t, v, "Write", "a", "101")
	holdDo(t, v, "Make", "a", "9")
	holdDo(t, v, "Remove", "b", "9")
	holdDo(t, v, "Remove", "a/l", "0")
	holdList(t, "Removed", v.Removed(), []string{"a/l"})
}

// turns are what calls answer, one after the other, and how the overlay stands then.
type turns struct {
	name  string
	calls []call
	want  string
	out   []api.Entry
	gone  []string
	seen  []api.Seen
}

func write(p, s string) call { return call{"Write", p, s} }
func make_(p string) call    { return call{"Make", p, ""} }
func remove(p string) call   { return call{"Remove", p, ""} }
func read(p string) call     { return call{"Read", p, ""} }
func list(p string) call     { return call{"List", p, ""} }
func kind(p string) call     { return call{"Kind", p, ""} }

func calls(l ...call) []call { return l }

func (c turns) hold(t *testing.T, tree ...api.Entry) {
	t.Helper()
	v := newView(t, tree...)
	s := newSlow(tree)
	var got []string
	for _, x := range c.calls {
		got = append(got, x.do(v))
		x.do(s)
		holdStand(t, v, s)
	}
	hold(t, c.name, strings.Join(got, ", "), c.want)
	holdList(t, c.name+": Outputs", v.Outputs(), c.out)
	holdList(t, c.name+": Removed", v.Removed(), c.gone)
	holdList(t, c.name+": Seen", v.Seen(), c.seen)
}

// W2, W3: what is written, made and removed, where the tree has something and where it has nothing, and once more.
func TestTurns(t *testing.T) {
	for _, c := range []turns{
		{"a new file", calls(write("n", "1"), read("n")), `0, "1" 0`, row(f("n", "1")), nil, []api.Seen{nothing("n")}},
		{"an empty one", calls(write("n", ""), read("n"), kind("n")), `0, "" 0, 1 0`, row(f("n", "")), nil, []api.Seen{nothing("n")}},
		{"written twice", calls(write("n", "1"), write("n", "22"), read("n")), `0, 0, "22" 0`, row(f("n", "22")), nil, []api.Seen{nothing("n")}},
		{"over the tree's", calls(write("b/g", "1"), read("b/g")), `0, "1" 0`, row(f("b/g", "1")), nil, []api.Seen{dirMet("b"), fileKind("b/g")}},
		{"over what was read", calls(read("b/g"), write("b/g", "1")), `"y" 0, 0`, row(f("b/g", "1")), nil, []api.Seen{dirMet("b"), fileRead("b/g", "y")}},
		{"the same over the tree's", calls(write("b/g", "y")), `0`, row(f("b/g", "y")), nil, []api.Seen{dirMet("b"), fileKind("b/g")}},
		{"through a link", calls(write("a/l/g", "1"), read("b/g")), `0, "1" 0`, row(f("b/g", "1")), nil, []api.Seen{dirMet("a"), linkMet("a/l", "../b"), dirMet("b"), fileKind("b/g")}},
		{"a new one through a link", calls(write("a/l/n", "1"), read("b/n")), `0, "1" 0`, row(f("b/n", "1")), nil, []api.Seen{dirMet("a"), linkMet("a/l", "../b"), dirMet("b"), nothing("b/n")}},
		{"to a directory", calls(write("b", "1"), write("a/l", "1")), `101, 101`, nil, nil, []api.Seen{dirMet("a"), linkMet("a/l", "../b"), dirMet("b")}},
		{"below a file", calls(write("a/f/n", "1"), make_("a/f/n"), remove("a/f/n")), `102, 102, 102`, nil, nil, []api.Seen{dirMet("a"), fileKind("a/f")}},
		{"below nothing", calls(write("n/m", "1"), make_("n/m"), remove("n/m")), `100, 100, 100`, nil, nil, []api.Seen{nothing("n")}},
		{"made", calls(make_("n"), kind("n"), list("n"), read("n"), write("n", "1"), make_("n")), `0, 2 0, [] 0, "" 101, 101, 9`, row(d("n")), nil, []api.Seen{nothing("n")}},
		{"made of what is there", calls(make_("b"), make_("a/f"), make_("a/l")), `9, 9, 9`, nil, nil, []api.Seen{dirMet("a"), fileKind("a/f"), linkMet("a/l", "../b"), dirMet("b")}},
		{"within what was made", calls(make_("n"), make_("n/m"), write("n/m/k", "1"), list("n"), list("n/m")), `0, 0, 0, ["m"] 0, ["k"] 0`, row(d("n"), d("n/m"), f("n/m/k", "1")), nil, []api.Seen{nothing("n"), nothing("n/m"), nothing("n/m/k")}},
		{"removed of the tree", calls(remove("b/g"), kind("b/g"), read("b/g"), remove("b/g")), `0, 0 0, "" 100, 100`, nil, []string{"b/g"}, []api.Seen{dirMet("b"), fileKind("b/g")}},
		{"removed of the overlay", calls(write("n", "1"), remove("n"), kind("n"), remove("n")), `0, 0, 0 0, 100`, nil, nil, []api.Seen{nothing("n")}},
		{"removed of both", calls(write("b/g", "1"), remove("b/g"), kind("b/g")), `0, 0, 0 0`, nil, []string{"b/g"}, []api.Seen{dirMet("b"), fileKind("b/g")}},
		{"removed, written again", calls(remove("b/g"), write("b/g", "1"), read("b/g")), `0, 0, "1" 0`, row(f("b/g", "1")), nil, []api.Seen{dirMet("b"), fileKind("b/g")}},
		{"removed, made", calls(remove("b/g"), make_("b/g"), write("b/g/n", "1"), read("b/g/n")), `0, 0, 0, "1" 0`, row(d("b/g"), f("b/g/n", "1")), nil, []api.Seen{dirMet("b"), fileKind("b/g"), nothing("b/g/n")}},
		{"removed twice", calls(remove("b/g"), write("b/g", "1"), remove("b/g")), `0, 0, 0`, nil, []string{"b/g"}, []api.Seen{dirMet("b"), fileKind("b/g")}},
		{"a link goes itself", calls(remove("a/l"), kind("a/l"), kind("b/g")), `0, 0 0, 1 0`, nil, []string{"a/l"}, []api.Seen{dirMet("a"), linkMet("a/l", "../b"), dirMet("b"), fileKind("b/g")}},
		{"a file in the place of a link", calls(remove("a/l"), write("a/l", "1"), kind("a/l/g")), `0, 0, 0 102`, row(f("a/l", "1")), nil, []api.Seen{dirMet("a"), linkMet("a/l", "../b")}},
		{"removed through a link", calls(remove("a/l/g")), `0`, nil, []string{"b/g"}, []api.Seen{dirMet("a"), linkMet("a/l", "../b"), dirMet("b"), fileKind("b/g")}},
		{"a directory that is not empty", calls(remove("b")), `9`, nil, nil, []api.Seen{dirListed("b", "g")}},
		{"a directory that was emptied", calls(remove("b/g"), remove("b"), kind("b"), kind("b/g"), kind("a/l")), `0, 0, 0 0, 0 0, 0 0`, nil, []string{"b", "b/g"}, []api.Seen{dirMet("a"), linkMet("a/l", "../b"), dirListed("b", "g"), fileKind("b/g")}},
		{"and made again", calls(remove("b/g"), remove("b"), make_("b"), list("b"), kind("b/g"), list("a/l")), `0, 0, 0, [] 0, 0 0, [] 0`, row(d("b")), []string{"b/g"}, []api.Seen{dirMet("a"), linkMet("a/l", "../b"), dirListed("b", "g"), fileKind("b/g")}},
		{"and written", calls(remove("b/g"), remove("b"), write("b", "1"), kind("b/g"), read("a/l")), `0, 0, 0, 0 102, "1" 0`, row(f("b", "1")), []string{"b/g"}, []api.Seen{dirMet("a"), linkMet("a/l", "../b"), dirListed("b", "g"), fileKind("b/g")}},
		{"with what was written in it", calls(remove("b/g"), write("b/n", "1"), remove("b"), remove("b/n"), remove("b")), `0, 0, 9, 0, 0`, nil, []string{"b", "b/g"}, []api.Seen{dirListed("b", "g"), fileKind("b/g"), nothing("b/n")}},
		{"one that was made", calls(make_("n"), write("n/m", "1"), remove("n"), remove("n/m"), remove("n"), kind("n/m")), `0, 0, 9, 0, 0, 0 0`, nil, nil, []api.Seen{nothing("n"), nothing("n/m")}},
		{"what is not there", calls(remove("n"), remove("b/n")), `100, 100`, nil, nil, []api.Seen{dirMet("b"), nothing("b/n"), nothing("n")}},
	} {
		c.hold(t, example()...)
	}
}

// W2: a link that leads nowhere, in a ring, out: Write tells its error, of ErrMissing too; Make, for which p is not resolved either, goes by the last name alone; Remove takes the link.
func TestTurnsOfLinks(t *testing.T) {
	for _, c := range []struct{ to, write, make string }{
		{"none", "100", "100"},
		{"none/more", "100", "100"},
		{"f/more", "102", "100"},
		{"l", "103", "100"},
		{"../x", "43", "100"},
		{"/x", "41", "100"},
		{"a b", "42", "100"},
		{deep(33), "44", "100"},
		{"f", "0", "9"},
		{"d", "101", "9"},
		{".", "101", "9"},
	} {
		e := row(d("d"), f("f", "x"), l("l", c.to))
		v := newView(t, e...)
		holdDo(t, v, "Write", "l", c.write)
		v = newView(t, e...)
		holdDo(t, v, "Make", "l", c.make)
		hold(t, "Outputs", len(v.Outputs()), 0)
		holdDo(t, v, "Remove", "l", "0")
		holdDo(t, v, "Make", "l", "0")
		holdList(t, "Outputs", v.Outputs(), row(d("l")))
	}
}

// W2: a path's directory is resolved, with links of its own; its error is told.
func TestTurnsBelowLinks(t *testing.T) {
	e := row(d("d"), f("f", "x"), l("ld", "d"), l("lf", "f"), l("ln", "none"), l("lo", ".."), l("ls", "ls"))
	for dir, want := range map[string]string{"ld": "0", "lf": "102", "ln": "100", "lo": "43", "ls": "103", "none": "100", "d": "0"} {
		for _, name := range []string{"Write", "Make"} {
			v := newView(t, e...)
			holdDo(t, v, name, dir+"/new", want)
			if want == "0" {
				hold(t, "the path", v.Outputs()[0].Path, "d/new")
				want := "0"
				holdDo(t, v, "Remove", dir+"/new", want)
			} else {
				holdDo(t, v, "Remove", dir+"/new", want)
			}
			hold(t, "Outputs", len(v.Outputs()), 0)
		}
	}
	holdDo(t, newView(t, e...), "Remove", "ld/new", "100")
}

// W2: the path of p's last name in its directory has at most MaxDepth names.
func TestTurnsDeep(t *testing.T) {
	for depth := 30; depth <= 32; depth++ {
		e := append(deepDirs(32)[:depth], l("l", deep(depth)))
		v := newView(t, e...)
		want := "0"
		if depth == 32 {
			want = "44"
		}
		holdDo(t, v, "Write", "l/f", want)
		holdDo(t, v, "Remove", "l/f", want)
		holdDo(t, v, "Make", "l/f", want)
		holdDo(t, v, "Remove", "l/f", want)
	}
	v := newView(t, deepDirs(31)...)
	holdDo(t, v, "Write", deep(32), "0")
	holdDo(t, v, "Write", deep(33), "45")
}

// W2: data has at most MaxFile bytes; that is asked ahead of where the path leads, and nothing is learnt then.
func TestMostData(t *testing.T) {
	v := newView(t, example()...)
	for _, p := range []string{"n", "a", "a/f", "a/f/z", "none/n"} {
		hold(t, "Write of too much", v.Write(p, long(api.MaxFile+1)), api.ErrBig)
	}
	holdStand(t, v, newSlow(example()))
	hold(t, "Write of MaxFile bytes", v.Write("n", long(api.MaxFile)), api.OK)
	if s, e := v.Read("n"); s != long(api.MaxFile) || e != api.OK {
		t.Errorf("Read: %d bytes, %d", len(s), e)
	}
}

// fill writes n files, of bytes bytes each.
func fill(t *testing.T, v *view.View, n, bytes int) {
	t.Helper()
	for i := range n {
		if e := v.Write(fmt.Sprintf("w%04d", i), long(bytes)); e != api.OK {
			t.Fatalf("Write of %d: %d", i, e)
		}
	}
}

// W2: an overlay has MaxEntries paths at most, what was removed among them; nothing is turned beyond that, but it is learnt.
func TestMostPaths(t *testing.T) {
	v := newView(t, f("a", "1"), f("b", "2"), d("c"))
	hold(t, "Remove", v.Remove("a"), api.OK)
	hold(t, "Make", v.Make("d"), api.OK)
	fill(t, v, api.MaxEntries-2, 0)
	hold(t, "Write of one more", v.Write("x", ""), api.ErrMany)
	hold(t, "Make of one more", v.Make("y"), api.ErrMany)
	hold(t, "Write over one more", v.Write("b", "3"), api.ErrMany)
	hold(t, "Remove of one more", v.Remove("b"), api.ErrMany)
	hold(t, "Remove of a directory more", v.Remove("c"), api.ErrMany)
	holdDo(t, v, "Read", "b", `"2" 0`)
	holdDo(t, v, "Kind", "x", "0 0")
	holdDo(t, v, "Kind", "c", "2 0")
	hold(t, "Outputs", len(v.Outputs()), api.MaxEntries-1)
	holdList(t, "Removed", v.Removed(), []string{"a"})
	seen := v.Seen()
	want := []api.Seen{fileKind("a"), fileRead("b", "2"), dirListed("c"), nothing("d"), nothing("w0000")}
	holdList(t, "Seen", seen[:5], want)
	holdList(t, "Seen", seen[len(seen)-2:], []api.Seen{nothing("x"), nothing("y")})
	// Of what the overlay speaks already it may say something else.
	hold(t, "Write over its own", v.Write("w0000", "1"), api.OK)
	hold(t, "Write of what was removed", v.Write("a", "4"), api.OK)
	hold(t, "Remove of it", v.Remove("a"), api.OK)
	// What it has alone gives its place back, what the tree has does not.
	hold(t, "Write", v.Write("x", ""), api.ErrMany)
	hold(t, "Remove of its own", v.Remove("w0001"), api.OK)
	hold(t, "Write", v.Write("x", ""), api.OK)
	hold(t, "Write", v.Write("z", ""), api.ErrMany)
}

// W2: MaxEntries paths of a tree may be removed.
func TestMostRemoved(t *testing.T) {
	var e []api.Entry
	for i := range api.MaxEntries {
		e = append(e, f(fmt.Sprintf("n%04d", i), ""))
	}
	v := newView(t, e...)
	for _, x := range e {
		hold(t, "Remove", v.Remove(x.Path), api.OK)
	}
	hold(t, "Write", v.Write("x", ""), api.ErrMany)
	hold(t, "Write again", v.Write("n0007", "x"), api.OK)
	hold(t, "Removed", len(v.Removed()), api.MaxEntries-1)
	all, _ := v.Merged()
	holdList(t, "Merged", all, row(f("n0007", "x")))
}

// W2: the files of an overlay have MaxTree bytes at most together; those of the tree don't count.
func TestMostBytes(t *testing.T) {
	most := api.MaxTree / api.MaxFile
	var e []api.Entry
	for i := range most {
		e = append(e, f(fmt.Sprintf("n%04d", i), long(api.MaxFile)))
	}
	v := newView(t, e...)
	fill(t, v, most-1, api.MaxFile)
	hold(t, "Write", v.Write("x", long(api.MaxFile-1)), api.OK)
	hold(t, "Write of two bytes more", v.Write("y", "12"), api.ErrBig)
	holdDo(t, v, "Kind", "y", "0 0")
	hold(t, "Write of one byte more", v.Write("y", "1"), api.OK)
	hold(t, "Write over the tree's", v.Write("n0003", "1"), api.ErrBig)
	hold(t, "Write of one byte in the place of one", v.Write("y", "2"), api.OK)
	hold(t, "Write of two in the place of one", v.Write("y", "22"), api.ErrBig)
	holdDo(t, v, "Read", "y", `"2" 0`)
	hold(t, "Write of none", v.Write("z", ""), api.OK)
	hold(t, "Make", v.Make("d"), api.OK)
	hold(t, "Remove of the tree's", v.Remove("n0001"), api.OK)
	hold(t, "Write of less", v.Write("x", "1"), api.OK)
	hold(t, "Write of the rest", v.Write("n0003", long(api.MaxFile-2)), api.OK)
	hold(t, "Write", v.Write("n0004", "1"), api.ErrBig)
	hold(t, "Remove", v.Remove("y"), api.OK)
	hold(t, "Write", v.Write("n0004", "1"), api.OK)
	if s, e := v.Read("n0002"); s != long(api.MaxFile) || e != api.OK {
		t.Errorf("Read of the tree's: %d bytes, %d", len(s), e)
	}
}

// W2, R2: ErrMany comes ahead of ErrBig, and both behind where the path leads.
func TestTooManyAndTooBig(t *testing.T) {
	most := api.MaxTree / api.MaxFile
	v := newView(t, d("d"), f("f", ""), l("l", "none"))
	fill(t, v, most, api.MaxFile)
	for i := range api.MaxEntries - most {
		hold(t, "Make", v.Make(fmt.Sprintf("m%04d", i)), api.OK)
	}
	hold(t, "Write of both", v.Write("x", "1"), api.ErrMany)
	hold(t, "Write over the tree's", v.Write("f", "1"), api.ErrMany)
	hold(t, "Write to a directory", v.Write("d", "1"), api.ErrDir)
	hold(t, "Write below nothing", v.Write("x/y", "1"), api.ErrMissing)
	hold(t, "Write to a link", v.Write("l", "1"), api.ErrMissing)
	hold(t, "Write of too much", v.Write("x", long(api.MaxFile+1)), api.ErrBig)
	hold(t, "Make of what is there", v.Make("d"), api.ErrThere)
	hold(t, "Remove of what is not there", v.Remove("x"), api.ErrMissing)
	hold(t, "Remove", v.Remove("d"), api.ErrMany)
}

// W3: Merged of what is too much for a tree, by one entry and by one byte, links among them.
func TestMergedTooMuch(t *testing.T) {
	var e []api.Entry
	for i := range api.MaxEntries - 1 {
		e = append(e, f(fmt.Sprintf("n%04d", i), ""))
	}
	v := newView(t, e...)
	hold(t, "Make", v.Make("x"), api.OK)
	all, why := v.Merged()
	hold(t, "Merged of 1024", len(all), api.MaxEntries)
	hold(t, "Merged of 1024", why, api.OK)
	hold(t, "Write", v.Write("x/y", ""), api.OK)
	all, why = v.Merged()
	hold(t, "Merged of 1025", len(all), 0)
	hold(t, "Merged of 1025", why, api.ErrMany)
	// As many entries too many as there can be, and bytes, too.
	fill(t, v, 16, api.MaxFile)
	_, why = v.Merged()
	hold(t, "Merged of both", why, api.ErrMany)

	v = newView(t, f("a", "1"), l("l", "ab"), f("z", long(api.MaxFile-4)))
	fill(t, v, 15, api.MaxFile)
	hold(t, "Write", v.Write("x", "1"), api.OK)
	all, why = v.Merged()
	hold(t, "Merged of 2^20 bytes", len(all), 19)
	hold(t, "Merged of 2^20 bytes", why, api.OK)
	hold(t, "Write", v.Write("x", "12"), api.OK)
	all, why = v.Merged()
	hold(t, "Merged of one byte more", len(all), 0)
	hold(t, "Merged of one byte more", why, api.ErrBig)
	hold(t, "Remove", v.Remove("a"), api.OK)
	_, why = v.Merged()
	hold(t, "Merged of less", why, api.OK)
}

// W3: Outputs and Removed rise by paths, name by name.
func TestOutputsRise(t *testing.T) {
	v := newView(t, d("r"), f("r/x", ""), f("r-s", ""), f("rr", ""))
	for _, p := range []string{"m-n", "mm", "m.x"} {
		holdDo(t, v, "Write", p, "0")
	}
	holdDo(t, v, "Make", "m", "0")
	holdDo(t, v, "Write", "m/z", "0")
	holdDo(t, v, "Write", "m/a", "0")
	for _, p := range []string{"rr", "r-s", "r/x", "r"} {
		holdDo(t, v, "Remove", p, "0")
	}
	holdList(t, "Outputs", v.Outputs(), row(d("m"), f("m/a", "data"), f("m/z", "data"), f("m-n", "data"), f("m.x", "data"), f("mm", "data")))
	holdList(t, "Removed", v.Removed(), []string{"r", "r/x", "r-s", "rr"})
	all, e := v.Merged()
	holdList(t, "Merged", all, v.Outputs())
	hold(t, "Merged", e, api.OK)
}
