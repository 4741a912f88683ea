package scan

import (
	"strings"

	"treadle/api"
	"treadle/lex"
)

// With is a text with other includes in the place of its own.
func With(text string, l ...api.Include) (string, api.Errno) {
	own, f := Includes(text)
	if f.Why != api.OK {
		return "", f.Why
	}
	for _, in := range l {
		if !mayBe(in) {
			return "", api.ErrArg
		}
	}
	var s strings.Builder
	for _, in := range l {
		writeInclude(&s, in)
		// What is too long already is not built up to its end: there is no bound to how many includes are handed in.
		if s.Len() > api.MaxSource {
			return "", api.ErrLong
		}
	}
	s.WriteString(text[end(text, own):])
	if s.Len() > api.MaxSource {
		return "", api.ErrLong
	}
	return s.String(), api.OK
}

// mayBe tells whether a source could have such an include.
func mayBe(in api.Include) bool { return len(in.Path) <= api.MaxText && lex.Word(in.Name) }

func writeInclude(s *strings.Builder, in api.Include) {
	quoted, _ := lex.Quote(in.Path)
	s.WriteString(keyInclude + " ")
	s.WriteString(quoted)
	s.WriteString(" " + keyAs + " ")
	s.WriteString(in.Name)
	s.WriteString(signLast + "\n")
}
