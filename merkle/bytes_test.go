package merkle_test

import (
	"bytes"
	"slices"
	"strings"
	"testing"

	"treadle/api"
	"treadle/merkle"
)

// M1: the bytes of trees, written out.
func TestBytesExamples(t *testing.T) {
	for _, c := range []struct {
		t    []api.Entry
		want string
	}{
		{nil, "\x74\x54\x31\x00"},
		{row(), "tT1\x00"},
		{second(), "tT1\x02\x01a\x02\x00\x03a/b\x01\x01x"},
		{row(f("a", "")), "tT1\x01\x01a\x01\x00"},
		{row(d("a")), "tT1\x01\x01a\x02\x00"},
		{row(l("a", "../b")), "tT1\x01\x01a\x03\x04../b"},
		{row(f("a", long(300))), "tT1\x01\x01a\x01\xac\x02" + long(300)},
		{row(f("a", long(65536))), "tT1\x01\x01a\x01\x80\x80\x04" + long(65536)},
		{row(f("a", "\x00\xff"), f("b", "y")), "tT1\x02\x01a\x01\x02\x00\xff\x01b\x01\x01y"},
	} {
		if b, e := merkle.Bytes(c.t); string(b) != c.want || e != api.OK {
			t.Errorf("Bytes(%s): %q, %d", show(c.t), b[:min(len(b), 40)], e)
		}
		holdRead(t, []byte(c.want), c.t, true)
	}
	b, _ := merkle.Bytes(files("n", 1024, 0))
	if !strings.HasPrefix(string(b), "tT1\x80\x08\x05n0000\x01\x00\x05n0001") {
		t.Errorf("Bytes of 1024 entries: %q", b[:20])
	}
}

// M1: of trees that are not right Check's error is told.
func TestBytesOfWrongTrees(t *testing.T) {
	for _, c := range wrongTrees() {
		if b, e := merkle.Bytes(c.t); b != nil || e != c.e {
			t.Errorf("Bytes(%s): %q, %d, not %d", show(c.t), b, e, c.e)
		}
	}
}

// holdRead asks for the tree, or for ErrTree at the byte 0 and nothing else.
func holdRead(t *testing.T, b []byte, want []api.Entry, is bool) {
	t.Helper()
	fault := api.Fault{}
	if !is {
		fault = api.Fault{Why: api.ErrTree}
	}
	got, why := merkle.Read(b)
	if !slices.Equal(got, want) || why != fault || !is && got != nil {
		t.Errorf("Read(%q): %s, %v, not %s, %v", b[:min(len(b), 60)], show(got), why, show(want), fault)
	}
}

// M1: bytes that are no tree's, each for a reason of its own.
func TestReadNoTrees(t *testing.T) {
	for _, s := range []string{
		"", "t", "tT", "tT1", "tT1\x01", "\x00", "tT2\x00", "TT1\x00", "tt1\x00", "tT\x00", "1Tt\x00", " tT1\x00",
		"tT1\x00\x00", "tT1\x00tT1\x00", "tT1\x00a", second1 + "\x00", second1 + "x",
		"tT1\x80\x00", "tT1\x82\x00\x01a\x02\x00\x03a/b\x01\x01x", "tT1\x02\x81\x00a\x02\x00\x03a/b\x01\x01x", "tT1\x02\x01a\x02\x80\x00\x03a/b\x01\x01x", "tT1\x02\x01a\x02\x00\x03a/b\x01\x81\x00x",
		"tT1\x01\x01a\x02\x00\x03a/b\x01\x01x", "tT1\x03\x01a\x02\x00\x03a/b\x01\x01x",
		"tT1\x01\x03a/b\x01\x01x", "tT1\x02\x03a/b\x01\x01x\x01a\x02\x00", "tT1\x02\x01b\x02\x00\x01a\x02\x00", "tT1\x02\x01a\x02\x00\x01a\x02\x00",
		"tT1\x01\x01a\x00\x00", "tT1\x01\x01a\x04\x00", "tT1\x01\x01a\xff\x00", "tT1\x01\x01a\x02\x01x", "tT1\x01\x01a\x03\x00", "tT1\x01\x00\x02\x00", "tT1\x01\x02a/\x02\x00", "tT1\x01\x01 \x01\x00",
		"tT1\xff\xff\xff\xff\xff\xff\xff\xff\xff\x01", "tT1\xff\xff\xff\xff\xff\xff\xff\xff\xff\x02", "tT1\x01\xff\xff\xff\xff\xff\xff\xff\xff\xff\x01a", "tT1\x01\x01a\x01\xff\xff\xff\xff\x0f",
	} {
		holdRead(t, []byte(s), nil, false)
	}
	for _, c := range wrongTrees() {
		if slices.ContainsFunc(c.t, func(e api.Entry) bool { return e.Kind != int(byte(e.Kind)) }) {
			continue
		}
		holdRead(t, slowBytes(c.t), nil, false)
	}
}

const second1 = "tT1\x02\x01a\x02\x00\x03a/b\x01\x01x"

// M1: a tree's bytes cut short, and with bytes behind, are no tree's.
func TestReadCut(t *testing.T) {
	for _, c := range [][]api.Entry{nil, second(), wide(), files("n", 130, 2), append(deepDirs(31), f(deep(32), "x"))} {
		b := slowBytes(c)
		for n := range b {
			holdRead(t, b[:n], nil, false)
		}
		for _, more := range []string{"\x00", "x", "\x80", "tT1\x00", string(b)} {
			holdRead(t, append(slices.Clone(b), more...), nil, false)
		}
	}
}

// M1: each byte of a tree's turned into each other one: it is another tree's, or none's.
func TestReadTurned(t *testing.T) {
	for _, c := range [][]api.Entry{nil, second(), wide()} {
		b := slowBytes(c)
		for i := range b {
			for x := range 256 {
				turned := slices.Clone(b)
				turned[i] = byte(x)
				want, is := slowRead(turned)
				holdRead(t, turned, want, is)
			}
		}
	}
}

// M1: bytes of which some were taken out, put in or turned.
func TestReadAtRandom(t *testing.T) {
	r := source()
	met := map[bool]int{}
	for range 20000 {
		b := slowBytes(someRow(r))
		for range r.IntN(4) {
			i := r.IntN(len(b))
			switch r.IntN(4) {
			case 0:
				b = slices.Delete(b, i, i+1)
			case 1:
				b = slices.Insert(b, i, byte(r.IntN(4)))
			case 2:
				b[i] = "abx/\x00\x01\x02\x03"[r.IntN(8)]
			}
			b = append(b, 0)[:max(len(b), 1)]
		}
		want, is := slowRead(b)
		holdRead(t, b, want, is)
		met[is]++
	}
	if met[true] < 2000 || met[false] < 2000 {
		t.Errorf("met: %v", met)
	}
}

// M5: there and back, and bytes of trees alone are taken.
func TestBytesThereAndBack(t *testing.T) {
	trees := rightTrees()
	r := source()
	for range 2000 {
		trees = append(trees, someTree(r))
	}
	for _, c := range trees {
		b, e := merkle.Bytes(c)
		if e != api.OK || !bytes.Equal(b, slowBytes(c)) {
			t.Fatalf("Bytes(%s): %d", show(c), e)
		}
		back, why := merkle.Read(b)
		if why != (api.Fault{}) || !slices.Equal(back, c) {
			t.Fatalf("Read of Bytes(%s): %s, %v", show(c), show(back), why)
		}
		if again, e := merkle.Bytes(back); e != api.OK || !bytes.Equal(again, b) {
			t.Fatalf("Bytes of Read of Bytes(%s): %d", show(c), e)
		}
	}
}
