package view

import (
	"treadle/api"
	"treadle/path"
)

// find is what stands where a path leads, if it is one and there is a view.
func (v *View) find(p string) (api.Entry, api.Errno) {
	if e := v.takes(p); e != api.OK {
		return api.Entry{}, e
	}
	return v.resolve(p)
}

// resolve is what stands where a path leads: a file or a directory.
func (v *View) resolve(p string) (api.Entry, api.Errno) {
	ahead, _ := path.Names(p)
	stand := v.ground.at(root)
	for hops := 0; len(ahead) > 0; {
		if stand.Kind == api.KindFile {
			return api.Entry{}, api.ErrFile
		}
		next, e := v.step(stand.Path, ahead[0])
		ahead = ahead[1:]
		if e != api.OK {
			return api.Entry{}, e
		}
		if next.Kind != api.KindLink {
			stand = next
			continue
		}
		if hops++; hops > api.MaxHops {
			return api.Entry{}, api.ErrHops
		}
		if ahead, e = follow(stand.Path, next.Data, ahead); e != api.OK {
			return api.Entry{}, e
		}
		stand = v.ground.at(root)
	}
	return stand, api.OK
}

// step is what stands at a name in a directory.
func (v *View) step(dir, name string) (api.Entry, api.Errno) {
	p, e := path.Join(dir, name)
	if e != api.OK {
		return api.Entry{}, e
	}
	there := v.look(p)
	if there.Kind == api.KindNone {
		return api.Entry{}, api.ErrMissing
	}
	return there, api.OK
}

// follow are the names ahead, from the root on, behind a link that stands in a directory.
func follow(dir, target string, ahead []string) ([]string, api.Errno) {
	to, e := path.Join(dir, target)
	if e != api.OK {
		return nil, e
	}
	names, _ := path.Names(to)
	if len(names)+len(ahead) > api.MaxDepth {
		return nil, api.ErrDeep
	}
	return append(names, ahead...), api.OK
}
