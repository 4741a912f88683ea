package path

import (
	"strings"

	"treadle/api"
)

// Clean is the path that a written path means from the root on.
func Clean(s string) (string, api.Errno) { return Join("", s) }

// Join is the path that written paths mean, one behind the other, from a path on.
func Join(base string, more ...string) (string, api.Errno) {
	names, e := Names(base)
	for i := 0; e == api.OK && i < len(more); i++ {
		names, e = walk(names, more[i])
	}
	if e != api.OK {
		return "", e
	}
	return pathOf(names)
}

// walk goes on from names by a written path; how deep it leads is not asked, for it may lead back again.
func walk(names []string, written string) ([]string, api.Errno) {
	if len(written) > api.MaxWritten {
		return nil, api.ErrWritten
	}
	if strings.HasPrefix(written, slash) {
		return nil, api.ErrAbsolute
	}
	for _, piece := range strings.Split(written, slash) {
		var e api.Errno
		if names, e = step(names, piece); e != api.OK {
			return nil, e
		}
	}
	return names, api.OK
}

func step(names []string, piece string) ([]string, api.Errno) {
	switch piece {
	case "", ".":
		return names, api.OK
	case "..":
		if len(names) == 0 {
			return nil, api.ErrEscape
		}
		return names[:len(names)-1], api.OK
	}
	if e := Name(piece); e != api.OK {
		return nil, e
	}
	return append(names, piece), api.OK
}

// Aim is the path that a written path means in a directory's files.
func Aim(dir, s string) (string, api.Errno) {
	if e := Check(dir); e != api.OK {
		return "", e
	}
	first, _, _ := strings.Cut(s, slash)
	if first == "." || first == ".." {
		return Join(dir, s)
	}
	return Clean(s)
}
