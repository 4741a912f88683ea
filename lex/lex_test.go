package lex_test

import (
	"slices"
	"strings"
	"testing"

	"treadle/api"
	"treadle/lex"
)

func tok(kind api.TokenKind, from, to int) api.Token {
	return api.Token{Kind: kind, From: from, To: to}
}

// told is what All said: each token's kind and text.
func told(t *testing.T, src string) []string {
	t.Helper()
	l, f := lex.All(src)
	if f != (api.Fault{}) {
		t.Fatalf("All(%q): %v", src, f)
	}
	var out []string
	for _, x := range l {
		out = append(out, []string{"end", "word", "number", "text", "key", "sign"}[x.Kind]+" "+src[x.From:x.To])
	}
	return out
}

// L2, the chapter's first example.
func TestAllExample(t *testing.T) {
	l, f := lex.All("a<=b // x")
	want := []api.Token{tok(api.TokenWord, 0, 1), tok(api.TokenSign, 1, 3), tok(api.TokenWord, 3, 4), tok(api.TokenEnd, 9, 9)}
	if !slices.Equal(l, want) || f != (api.Fault{}) {
		t.Error(l, f)
	}
}

// L2: tokens one behind the other, the end too.
func TestAllTokens(t *testing.T) {
	for src, want := range map[string]string{
		"":                   "end ",
		" \t\r\n":            "end ",
		"// a remark":        "end ",
		"//":                 "end ",
		"a<= =b":             "word a,sign <=,sign =,word b,end ",
		"a+++b":              "word a,sign ++,sign +,word b,end ",
		"a++++b":             "word a,sign ++,sign ++,word b,end ",
		"===":                "sign ==,sign =,end ",
		"====":               "sign ==,sign ==,end ",
		"!==":                "sign !=,sign =,end ",
		"<=>":                "sign <=,sign >,end ",
		"=<":                 "sign =,sign <,end ",
		"=>=":                "sign =,sign >=,end ",
		"!!=":                "sign !,sign !=,end ",
		"<<=":                "sign <,sign <=,end ",
		"&&&&||||":           "sign &&,sign &&,sign ||,sign ||,end ",
		"(){},;:.=<>+-*/%!#": "sign (,sign ),sign {,sign },sign ,,sign ;,sign :,sign .,sign =,sign <,sign >,sign +,sign -,sign *,sign /,sign %,sign !,sign #,end ",
		"== != <= >= ++":     "sign ==,sign !=,sign <=,sign >=,sign ++,end ",
		"a/b":                "word a,sign /,word b,end ",
		"a/ /b":              "word a,sign /,sign /,word b,end ",
		"a//b":               "word a,end ",
		"a///b":              "word a,end ",
		"a/ //b":             "word a,sign /,end ",
		"a///b\n/c":          "word a,sign /,word c,end ",
		"a=//b\nc":           "word a,sign =,word c,end ",
		"-1":                 "sign -,number 1,end ",
		"1.5":                "number 1,sign .,number 5,end ",
		"t.stars(i)":         "word t,sign .,word stars,sign (,word i,sign ),end ",
		"a1 1\"1\"a":         "word a1,number 1,text \"1\",word a,end ",
		`"a""b"`:             `text "a",text "b",end `,
		`"// no remark"`:     `text "// no remark",end `,
		"// \"\n1":           "number 1,end ",
		"// a\r1\n2":         "number 2,end ",
		"//\xff\x00\n_":      "word _,end ",
		"If if iF ifs":       "word If,key if,word iF,word ifs,end ",
		"true false text":    "key true,key false,key text,end ",
		"0":                  "number 0,end ",
	} {
		if got := strings.Join(told(t, src), ","); got != want {
			t.Errorf("All(%q): %s", src, got)
		}
	}
}

// L2: the first that is none, and where it begins.
func TestAllFaults(t *testing.T) {
	for src, want := range map[string]api.Fault{
		"12a":                            {Why: api.ErrNumber, At: 0},
		"x 007":                          {Why: api.ErrNumber, At: 2},
		"a & b":                          {Why: api.ErrByte, At: 2},
		"a | b":                          {Why: api.ErrByte, At: 2},
		"\"a":                            {Why: api.ErrText, At: 0},
		"a &&& b":                        {Why: api.ErrByte, At: 4},
		"a |||":                          {Why: api.ErrByte, At: 4},
		"&":                              {Why: api.ErrByte, At: 0},
		"&|":                             {Why: api.ErrByte, At: 0},
		"& &":                            {Why: api.ErrByte, At: 0},
		"a // @\n\t @ 007":               {Why: api.ErrByte, At: 9},
		"1 2_":                           {Why: api.ErrNumber, At: 2},
		"\"a\" \"b":                      {Why: api.ErrText, At: 4},
		"\"a\nb\"":                       {Why: api.ErrText, At: 0},
		"\"\\\"":                         {Why: api.ErrText, At: 0},
		"a " + strings.Repeat("b", 33):   {Why: api.ErrWord, At: 2},
		"a @ " + strings.Repeat("b", 33): {Why: api.ErrByte, At: 2},
	} {
		if l, f := lex.All(src); len(l) != 0 || f != want {
			t.Errorf("All(%q): %v, %v", src, l, f)
		}
	}
}

// L1, L2, L4: a source of MaxSource bytes is one, one of one more is none.
func TestLongSources(t *testing.T) {
	full := strings.Repeat(" ", api.MaxSource-1) + "a"
	if l, f := lex.All(full); !slices.Equal(l, []api.Token{tok(api.TokenWord, 65535, 65536), tok(api.TokenEnd, 65536, 65536)}) || f != (api.Fault{}) {
		t.Error(l, f)
	}
	if x, e := lex.Next(full, 65536); x != tok(api.TokenEnd, 65536, 65536) || e != api.OK {
		t.Error(x, e)
	}
	if line, column, e := lex.Place(full, 65536); line != 1 || column != 65537 || e != api.OK {
		t.Error(line, column, e)
	}
	for _, long := range []string{" " + full, "@" + full, full + full} {
		if l, f := lex.All(long); len(l) != 0 || f != (api.Fault{Why: api.ErrLong}) {
			t.Error(l, f)
		}
		for _, at := range []int{-1, 0, 1, 65536, 65537, 1 << 40} {
			if x, e := lex.Next(long, at); x != (api.Token{}) || e != api.ErrLong {
				t.Error(at, x, e)
			}
			if line, column, e := lex.Place(long, at); line != 0 || column != 0 || e != api.ErrLong {
				t.Error(at, line, column, e)
			}
		}
	}
	many := strings.Repeat("#", api.MaxSource)
	if l, f := lex.All(many); len(l) != 65537 || f != (api.Fault{}) {
		t.Error(len(l), f)
	}
	if l, f := lex.All(strings.Repeat("1", api.MaxSource)); len(l) != 0 || f != (api.Fault{Why: api.ErrNumber}) {
		t.Error(len(l), f)
	}
}

// L1: from within a token or a remark, at both ends, and beyond them.
func TestNext(t *testing.T) {
	for _, c := range []struct {
		src  string
		at   int
		want api.Token
		e    api.Errno
	}{
		{"ab cd", 1, tok(api.TokenWord, 1, 2), api.OK},
		{"ab cd", 0, tok(api.TokenWord, 0, 2), api.OK},
		{"ab cd", 2, tok(api.TokenWord, 3, 5), api.OK},
		{"ab cd", 5, tok(api.TokenEnd, 5, 5), api.OK},
		{"ab cd", 6, api.Token{}, api.ErrArg},
		{"ab cd", -1, api.Token{}, api.ErrArg},
		{"@", 2, api.Token{}, api.ErrArg},
		{"@", -1 << 63, api.Token{}, api.ErrArg},
		{"@", 1<<63 - 1, api.Token{}, api.ErrArg},
		{"", 0, tok(api.TokenEnd, 0, 0), api.OK},
		{"", 1, api.Token{}, api.ErrArg},
		{"", -1, api.Token{}, api.ErrArg},
		{"a  ", 1, tok(api.TokenEnd, 3, 3), api.OK},
		{"// if", 0, tok(api.TokenEnd, 5, 5), api.OK},
		{"// if", 1, tok(api.TokenSign, 1, 2), api.OK},
		{"// if", 2, tok(api.TokenKey, 3, 5), api.OK},
		{"// if", 4, tok(api.TokenWord, 4, 5), api.OK},
		{"///a", 1, tok(api.TokenEnd, 4, 4), api.OK},
		{"///a", 2, tok(api.TokenSign, 2, 3), api.OK},
		{"// @\n1", 0, tok(api.TokenNumber, 5, 6), api.OK},
		{"// @\n1", 2, api.Token{From: 3}, api.ErrByte},
		{"// @\n1", 4, tok(api.TokenNumber, 5, 6), api.OK},
		{"007", 0, api.Token{}, api.ErrNumber},
		{"007", 1, api.Token{From: 1}, api.ErrNumber},
		{"007", 2, tok(api.TokenNumber, 2, 3), api.OK},
		{"12a", 2, tok(api.TokenWord, 2, 3), api.OK},
		{"a12", 1, tok(api.TokenNumber, 1, 3), api.OK},
		{"a1_", 1, api.Token{From: 1}, api.ErrNumber},
		{"==", 1, tok(api.TokenSign, 1, 2), api.OK},
		{"&&", 0, tok(api.TokenSign, 0, 2), api.OK},
		{"&&", 1, api.Token{From: 1}, api.ErrByte},
		{"||", 1, api.Token{From: 1}, api.ErrByte},
		{`"if"`, 0, tok(api.TokenText, 0, 4), api.OK},
		{`"if"`, 1, tok(api.TokenKey, 1, 3), api.OK},
		{`"if"`, 3, api.Token{From: 3}, api.ErrText},
		{`"a\"b"`, 2, api.Token{From: 2}, api.ErrByte},
		{`"a\"b"`, 3, tok(api.TokenText, 3, 6), api.OK},
		{"  &", 0, api.Token{From: 2}, api.ErrByte},
		{" \t\n\r\x0b", 0, api.Token{From: 4}, api.ErrByte},
		{" \x0c", 0, api.Token{From: 1}, api.ErrByte},
		{"_" + strings.Repeat("b", 32), 0, api.Token{}, api.ErrWord},
		{"_" + strings.Repeat("b", 32), 1, tok(api.TokenWord, 1, 33), api.OK},
	} {
		if x, e := lex.Next(c.src, c.at); x != c.want || e != c.e {
			t.Errorf("Next(%q, %d): %v, %d", c.src, c.at, x, e)
		}
	}
}

// L1: what each byte begins, alone, with a byte behind it, and behind another token.
func TestFirstBytes(t *testing.T) {
	for c := range 256 {
		for d := range 256 {
			for _, src := range []string{string([]byte{byte(c)}), string([]byte{byte(c), byte(d)}), string([]byte{';', byte(c), byte(d), ' ', 'a'})} {
				for at := range len(src) + 1 {
					x, e := lex.Next(src, at)
					y, f := slowNext(src, at)
					if x != y || e != f {
						t.Fatalf("Next(%q, %d): %v, %d, not %v, %d", src, at, x, e, y, f)
					}
				}
			}
		}
	}
}

// L1: words of MaxWord bytes and of one more; keys are words of the list alone.
func TestWords(t *testing.T) {
	for _, s := range strings.Fields(keyText) {
		if !lex.Key(s) || lex.Word(s) {
			t.Error(s, "is a key")
		}
		if x, e := lex.Next(s, 0); x != tok(api.TokenKey, 0, len(s)) || e != api.OK {
			t.Error(s, x, e)
		}
		for _, other := range []string{s + "s", s + "_", s + "1", "x" + s, strings.ToUpper(s), s[:len(s)-1] + "_"} {
			if lex.Key(other) || !lex.Word(other) {
				t.Error(other, "is no key")
			}
		}
		for _, none := range []string{s + " ", " " + s, s + "-", "1" + s, s + "\n", s + s + s + s + s + strings.Repeat("a", 32)} {
			if lex.Key(none) || lex.Word(none) {
				t.Errorf("%q is no word", none)
			}
		}
	}
	for _, s := range []string{"a", "z", "A", "Z", "_", "__", "a0", "a9", "_0", strings.Repeat("a", 32), strings.Repeat("_", 32), "a" + strings.Repeat("9", 31)} {
		if !lex.Word(s) || lex.Key(s) {
			t.Errorf("%q is a word", s)
		}
	}
	for _, s := range []string{"", "0", "9a", strings.Repeat("a", 33), strings.Repeat("a", 70000), "a-b", "a b", "a.b", " a", "a ", "a//", "é", "aé", "a\x00", "@", "[", "`", "{", "\"a\"", "==", "//", "&"} {
		if lex.Word(s) || lex.Key(s) {
			t.Errorf("%q is no word", s)
		}
	}
	for n, want := range map[int]api.Errno{1: api.OK, 31: api.OK, 32: api.OK, 33: api.ErrWord, 34: api.ErrWord, 65536: api.ErrWord} {
		x, e := lex.Next(strings.Repeat("w", n), 0)
		if e != want || e == api.OK && x != tok(api.TokenWord, 0, n) || e != api.OK && x != (api.Token{}) {
			t.Error(n, x, e)
		}
	}
}

// L3: a number from 0 to 2^63 - 1, in its one form.
func TestNumber(t *testing.T) {
	for s, want := range map[string]int64{"0": 0, "1": 1, "9": 9, "10": 10, "90": 90, "1234567890": 1234567890, "9223372036854775807": 1<<63 - 1,
		"9223372036854775799": 1<<63 - 9, "9223372036854775800": 1<<63 - 8, "922337203685477580": 922337203685477580, "4611686018427387904": 1 << 62} {
		if n, e := lex.Number(s); n != want || e != api.OK {
			t.Error(s, n, e)
		}
		if x, e := lex.Next(s, 0); x != tok(api.TokenNumber, 0, len(s)) || e != api.OK {
			t.Error(s, x, e)
		}
	}
	for _, s := range []string{"", "9223372036854775808", "9223372036854775809", "9223372036854775810", "9223372036854775900", "9300000000000000000", "18446744073709551616", "18446744073709551617",
		"92233720368547758070", "10000000000000000000", "99999999999999999999", strings.Repeat("9", 70000), "00", "01", "007", "0" + "9223372036854775807",
		"1a", "1_", "0x1", "0_", "1Z", "-1", "+1", " 1", "1 ", "1//", "1.5", "1\n", "a", "\"1\"", "1e3", "１", "//1"} {
		if n, e := lex.Number(s); n != 0 || e != api.ErrNumber {
			t.Error(s, n, e)
		}
	}
	for _, c := range []byte("azAZ_") {
		if x, e := lex.Next("1"+string([]byte{c}), 0); x != (api.Token{}) || e != api.ErrNumber {
			t.Errorf("1%c: %v, %d", c, x, e)
		}
	}
	for _, c := range []byte("@[`{\"./ \x80") {
		if x, e := lex.Next("1"+string([]byte{c}), 0); x != tok(api.TokenNumber, 0, 1) || e != api.OK {
			t.Errorf("1%c: %v, %d", c, x, e)
		}
	}
}

// L3: each piece that may be, and each that may not.
func TestPieces(t *testing.T) {
	for s, want := range map[string]string{
		`""`: "", `"a"`: "a", `"\n"`: "\n", `"\t"`: "\t", `"\""`: `"`, `"\\"`: `\`, `"\x00"`: "\x00", `"\xff"`: "\xff", `"\x0a"`: "\n", `"\x41"`: "A",
		`"a\x0ab"`: "a\nb", `"a\x0ab\""`: "a\nb\"", `"\x22"`: `"`, `"\\n"`: `\n`, `"\\\""`: `\"`, `"\x5cn"`: `\n`, `"\x0000"`: "\x0000", `" ~"`: " ~", `"//"`: "//", `"'"`: "'",
	} {
		if got, e := lex.Text(s); got != want || e != api.OK {
			t.Errorf("Text(%s): %q, %d", s, got, e)
		}
	}
	for _, s := range []string{"", `"`, `"a`, `a"`, `a`, `"a"b`, `"a" `, ` "a"`, `"a"//`, `"""`, `"\`, `"\"`, `"\\\"`, `"\x`, `"\x"`, `"\x0`, `"\x0"`, `"\x00`, `"\xg0"`, `"\x0g"`,
		`"\x0A"`, `"\xA0"`, `"\xF"f"`, `"\X00"`, `"\N"`, `"\T"`, `"\r"`, `"\0"`, `"\a"`, `"\'"`, `"\ "`, `"\/"`, `"\u0041"`, "'a'", "`a`", "\"\n\"", "\"\t\"", "\"\\\n\"", "\"\x00\"", "\"é\"", "1", "if", "=="} {
		if got, e := lex.Text(s); got != "" || e != api.ErrText {
			t.Errorf("Text(%s): %q, %d", s, got, e)
		}
	}
	for c := range 256 {
		for _, s := range []string{"\"" + string([]byte{byte(c)}) + "\"", "\"\\" + string([]byte{byte(c)}) + "\"", "\"\\x0" + string([]byte{byte(c)}) + "\"", "\"\\x" + string([]byte{byte(c)}) + "0\""} {
			checkText(t, s)
		}
	}
}

// checkText holds Text and Next against the slow ones.
func checkText(t *testing.T, s string) {
	t.Helper()
	want, why := "", api.ErrText
	if slowKind(s) == api.TokenText {
		want, why = slowValue(s), api.OK
	}
	if got, e := lex.Text(s); got != want || e != why {
		t.Errorf("Text(%q): %q, %d", s, got, e)
	}
	x, e := lex.Next(s, 0)
	if y, f := slowNext(s, 0); x != y || e != f {
		t.Errorf("Next(%q): %v, %d", s, x, e)
	}
}

// L1, L3: a value has at most MaxText bytes, whatever its pieces are.
func TestLongTexts(t *testing.T) {
	for _, piece := range []string{"a", `\n`, `\\`, `\"`, `\xff`} {
		inner := strings.Repeat(piece, api.MaxText)
		for _, s := range []string{`"` + inner + `"`, `"` + inner[:len(inner)-len(piece)] + `"`, `"` + inner} {
			checkText(t, s)
		}
		if v, e := lex.Text(`"` + inner + `"`); len(v) != 4096 || e != api.OK {
			t.Error(len(v), e)
		}
		long := `"` + inner + piece + `"`
		if v, e := lex.Text(long); v != "" || e != api.ErrText {
			t.Error(len(v), e)
		}
		if x, e := lex.Next(" "+long, 0); x != (api.Token{From: 1}) || e != api.ErrText {
			t.Error(x, e)
		}
	}
}

// L3: a value's one form.
func TestQuote(t *testing.T) {
	for value, want := range map[string]string{
		"": `""`, "a\nb": `"a\nb"`, "\t": `"\t"`, `"`: `"\""`, `\`: `"\\"`, "\x00": `"\x00"`, "\r": `"\x0d"`, "\x1f": `"\x1f"`, " ~": `" ~"`, "\x7f": `"\x7f"`, "\xff": `"\xff"`, "é": `"\xc3\xa9"`,
		"a\nb\"\x00\\": `"a\nb\"\x00\\"`, "\x0b\x0c\x80": `"\x0b\x0c\x80"`, "//'": `"//'"`,
	} {
		if got, e := lex.Quote(value); got != want || e != api.OK {
			t.Errorf("Quote(%q): %s, %d", value, got, e)
		}
	}
	for c := range 256 {
		value := string([]byte{byte(c)})
		if got, e := lex.Quote(value); got != slowQuote(value) || e != api.OK {
			t.Errorf("Quote(%q): %s, %d", value, got, e)
		}
	}
	for _, c := range []string{"a", "\n", "\xff"} {
		value := strings.Repeat(c, api.MaxText)
		if got, e := lex.Quote(value); got != slowQuote(value) || e != api.OK {
			t.Error(len(got), e)
		}
		if got, e := lex.Quote(value + c); got != "" || e != api.ErrLong {
			t.Error(len(got), e)
		}
	}
}

// L4: ahead of, at and behind every byte 10, and at both ends.
func TestPlace(t *testing.T) {
	for _, src := range []string{"", "a", "\n", "a\nbc", "\n\n", "\na\n\nbc\r\n\rd\n", "abc\n", "\xff\n\x00é\n"} {
		for at := -2; at <= len(src)+2; at++ {
			line, column, e := lex.Place(src, at)
			a, b, f := slowPlace(src, at)
			if line != a || column != b || e != f {
				t.Errorf("Place(%q, %d): %d, %d, %d", src, at, line, column, e)
			}
		}
	}
	for _, c := range []struct {
		src              string
		at, line, column int
		e                api.Errno
	}{
		{"a\nbc", 3, 2, 2, api.OK}, {"a\nbc", 4, 2, 3, api.OK}, {"a\nbc", 2, 2, 1, api.OK}, {"a\nbc", 1, 1, 2, api.OK}, {"a\nbc", 0, 1, 1, api.OK},
		{"", 0, 1, 1, api.OK}, {"\n", 1, 2, 1, api.OK}, {"a\rb", 3, 1, 4, api.OK}, {"é", 2, 1, 3, api.OK},
		{"a\nbc", -1, 0, 0, api.ErrArg}, {"a\nbc", 5, 0, 0, api.ErrArg}, {"", 1, 0, 0, api.ErrArg}, {"", -1 << 63, 0, 0, api.ErrArg}, {"", 1<<63 - 1, 0, 0, api.ErrArg},
	} {
		if line, column, e := lex.Place(c.src, c.at); line != c.line || column != c.column || e != c.e {
			t.Errorf("Place(%q, %d): %d, %d, %d", c.src, c.at, line, column, e)
		}
	}
}
