package tree

import (
	"slices"

	"treadle/api"
	"treadle/path"
)

// Make is the least right tree with these entries: directories that lack are put in.
func Make(l ...api.Entry) ([]api.Entry, api.Errno) {
	kinds := make(map[string]int, len(l))
	for _, e := range l {
		if !mayBe(e) {
			return nil, api.ErrKind
		}
		kinds[e.Path] = e.Kind
	}
	if len(kinds) < len(l) {
		return nil, api.ErrThere
	}
	dirs, e := lacking(l, kinds)
	if e != api.OK {
		return nil, e
	}
	t := slices.Concat(l, dirs)
	slices.SortFunc(t, func(a, b api.Entry) int {
		order, _ := path.Compare(a.Path, b.Path)
		return order
	})
	return fit(t)
}

// lacking are the directories that entries stand in and that are none of them; kinds, what stands at each path, learns of them.
func lacking(l []api.Entry, kinds map[string]int) ([]api.Entry, api.Errno) {
	var dirs []api.Entry
	for _, e := range l {
		// Where a directory stands, those that it stands in have their turn by itself, or had it.
		for dir := parent(e.Path); dir != root && kinds[dir] != api.KindDir; dir = parent(dir) {
			if kinds[dir] != api.KindNone {
				return nil, api.ErrParent
			}
			kinds[dir] = api.KindDir
			dirs = append(dirs, api.Entry{Path: dir, Kind: api.KindDir})
		}
	}
	return dirs, api.OK
}
