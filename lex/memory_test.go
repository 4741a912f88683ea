package lex_test

import (
	"strings"
	"testing"
	"unsafe"

	"treadle/api"
	"treadle/lex"
)

// span is where a piece of memory lies.
type span struct {
	from, to uintptr
	// What nobody holds any more could make place for another answer.
	held unsafe.Pointer
}

func spanOf(s string) span {
	at := unsafe.Pointer(unsafe.StringData(s))
	return span{uintptr(at), uintptr(at) + uintptr(len(s)), at}
}

// spanOfList is where a list lies, with its spare room.
func spanOfList(l []api.Token) span {
	at := unsafe.Pointer(unsafe.SliceData(l))
	return span{uintptr(at), uintptr(at) + uintptr(cap(l))*unsafe.Sizeof(api.Token{}), at}
}

func (a span) meets(b span) bool { return a.from < b.to && b.from < a.to }

// R4: values and texts share no memory with what was handed in, nor with each other.
func TestTextsAreNew(t *testing.T) {
	for _, inner := range []string{"a", "abc", "a//b ~", strings.Repeat("plain", 100), `\n`, `\x41b`} {
		s := strings.Clone(`"` + inner + `"`)
		v, _ := lex.Text(s)
		w, _ := lex.Text(s)
		if v == "" || v != w || spanOf(v).meets(spanOf(s)) || spanOf(v).meets(spanOf(w)) {
			t.Errorf("Text(%s)", s)
		}
		value := strings.Clone(inner)
		p, _ := lex.Quote(value)
		q, _ := lex.Quote(value)
		if p == "" || p != q || spanOf(p).meets(spanOf(value)) || spanOf(p).meets(spanOf(q)) {
			t.Errorf("Quote(%q)", value)
		}
	}
}

// R4: what is handed in is not kept: its memory may become another text.
func TestNothingIsKept(t *testing.T) {
	b := []byte(`"abc"`)
	loose := unsafe.String(&b[0], len(b))
	v, _ := lex.Text(loose)
	q, _ := lex.Quote(loose[1:4])
	l, _ := lex.All(loose)
	copy(b, "12345")
	if v != "abc" || q != `"abc"` || len(l) != 2 || l[0] != tok(api.TokenText, 0, 5) {
		t.Error(v, q, l)
	}
	if n, e := lex.Number(loose); n != 12345 || e != api.OK {
		t.Error(n, e)
	}
}

// R4: the tokens of one All are not those of another, spare room too.
func TestTokensAreNew(t *testing.T) {
	for _, src := range []string{"", "a", "a b", "a<=b // x", strings.Repeat("a ", 100)} {
		l, _ := lex.All(src)
		m, _ := lex.All(src)
		if len(l) == 0 || spanOfList(l).meets(spanOfList(m)) {
			t.Fatalf("All(%q)", src)
		}
		for i := range l[:cap(l)] {
			l[:cap(l)][i] = tok(api.TokenSign, -1, -1)
		}
		want, _ := slowAll(src)
		again, _ := lex.All(src)
		for i := range want {
			if m[i] != want[i] || again[i] != want[i] {
				t.Fatalf("All(%q): %v, %v", src, m, again)
			}
		}
	}
}

// R5: what a call answers hangs on its arguments alone, not on what was asked ahead, nor on who asks beside it.
func TestSameAnswers(t *testing.T) {
	ends := make(chan bool)
	for range 8 {
		go func() {
			good := true
			for i := range 300 {
				src := "if a" + strings.Repeat("b", i%40) + " <= \"x\\n\" // y"
				l, f := lex.All(src)
				want, why := slowAll(src)
				good = good && len(l) == len(want) && f == why && lex.Key("if") && lex.Word("iff")
			}
			ends <- good
		}()
	}
	for range 8 {
		if !<-ends {
			t.Error("another answer")
		}
	}
}
