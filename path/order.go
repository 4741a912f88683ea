package path

import (
	"slices"
	"strings"

	"treadle/api"
)

// Above tells whether a path is above another one.
func Above(a, b string) (bool, api.Errno) {
	if e := checkAll(a, b); e != api.OK {
		return false, e
	}
	if a == "" {
		return b != "", api.OK
	}
	// The slash keeps a from being above a path whose name only begins as its own.
	return strings.HasPrefix(b, a+slash), api.OK
}

func checkAll(paths ...string) api.Errno {
	for _, p := range paths {
		if e := Check(p); e != api.OK {
			return e
		}
	}
	return api.OK
}

// Compare is the order of paths.
func Compare(a, b string) (int, api.Errno) {
	if e := checkAll(a, b); e != api.OK {
		return 0, e
	}
	return compareNames(a, b), api.OK
}

// compareNames goes name by name, since by the bytes alone a-b would stand between a and a/b: - comes ahead of the slash.
func compareNames(a, b string) int {
	for a != "" && b != "" {
		var left, right string
		left, a, _ = strings.Cut(a, slash)
		right, b, _ = strings.Cut(b, slash)
		if c := strings.Compare(left, right); c != 0 {
			return c
		}
	}
	// One at least has come to its end, and the empty text is the least one.
	return strings.Compare(a, b)
}

// Rel is the shortest written path from a path to another one.
func Rel(from, to string) (string, api.Errno) {
	if e := checkAll(from, to); e != api.OK {
		return "", e
	}
	if from == to {
		return ".", api.OK
	}
	start, end := namesOf(from), namesOf(to)
	shared := sharedNames(start, end)
	pieces := slices.Repeat([]string{".."}, len(start)-shared)
	pieces = append(pieces, end[shared:]...)
	return strings.Join(pieces, slash), api.OK
}

// sharedNames is how many names both begin with.
func sharedNames(a, b []string) int {
	n := 0
	for n < len(a) && n < len(b) && a[n] == b[n] {
		n++
	}
	return n
}

// Common is the path with which all begin.
func Common(paths ...string) (string, api.Errno) {
	if e := checkAll(paths...); e != api.OK || len(paths) == 0 {
		return "", e
	}
	names := namesOf(paths[0])
	for _, p := range paths[1:] {
		names = names[:sharedNames(names, namesOf(p))]
	}
	return pathOf(names)
}
