package tree

import (
	"strings"

	"treadle/api"
	"treadle/path"
)

// Diff are the changes that lead from a tree to another.
func Diff(a, b []api.Entry) ([]api.Change, api.Errno) {
	if e := right(a, b); e != api.OK {
		return nil, e
	}
	var l []api.Change
	for len(a) > 0 || len(b) > 0 {
		c := firstOf(a, b)
		if c.Old.Kind != api.KindNone {
			a = a[1:]
		}
		if c.New.Kind != api.KindNone {
			b = b[1:]
		}
		if c.Old != c.New {
			l = append(l, ownChange(c))
		}
	}
	return l, api.OK
}

// firstOf is what two trees, one of them not empty, have at the first path of both.
func firstOf(a, b []api.Entry) api.Change {
	var order int
	switch {
	case len(a) == 0:
		order = 1
	case len(b) == 0:
		order = -1
	default:
		order, _ = path.Compare(a[0].Path, b[0].Path)
	}
	var c api.Change
	if order <= 0 {
		c.Path, c.Old = a[0].Path, a[0]
	}
	if order >= 0 {
		c.Path, c.New = b[0].Path, b[0]
	}
	return c
}

func ownChange(c api.Change) api.Change {
	return api.Change{Path: strings.Clone(c.Path), Old: ownEntry(c.Old), New: ownEntry(c.New)}
}

// Apply is a tree behind changes.
func Apply(t []api.Entry, l []api.Change) ([]api.Entry, api.Errno) {
	if e := right(t); e != api.OK {
		return nil, e
	}
	if !changesMayBe(l) {
		return nil, api.ErrArg
	}
	for _, c := range l {
		if standing(t, c.Path) != c.Old {
			return nil, api.ErrNone
		}
	}
	next := changed(t, l)
	if e := right(next); e != api.OK {
		return nil, e
	}
	return own(next), api.OK
}

func changesMayBe(l []api.Change) bool {
	last := root
	for _, c := range l {
		if c.Old == c.New && c.Old == (api.Entry{}) || !sideMayBe(c.Old, c.Path) || !sideMayBe(c.New, c.Path) {
			return false
		}
		if order, _ := path.Compare(last, c.Path); order >= 0 {
			return false
		}
		last = c.Path
	}
	return true
}

// sideMayBe tells of what stood or stands at a change's path whether it may: the zero entry is nothing, and may be.
func sideMayBe(e api.Entry, p string) bool {
	return e == (api.Entry{}) || e.Path == p && mayBe(e)
}

// changed is what comes of changes that fit: paths rise on both sides, so that each cuts off what is ahead of it.
func changed(t []api.Entry, l []api.Change) []api.Entry {
	var next []api.Entry
	for _, c := range l {
		i, there := place(t, c.Path)
		next = append(next, t[:i]...)
		if there {
			i++
		}
		t = t[i:]
		if c.New.Kind != api.KindNone {
			next = append(next, c.New)
		}
	}
	return append(next, t...)
}
