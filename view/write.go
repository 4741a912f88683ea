package view

import (
	"treadle/api"
	"treadle/path"
)

// turns is why what stands at a path can't be turned, whatever it is.
func (v *View) turns(p string) api.Errno {
	if e := v.takes(p); e != api.OK {
		return e
	}
	if p == root {
		return api.ErrRoot
	}
	return api.OK
}

// Write lets a file stand there.
func (v *View) Write(p, data string) api.Errno {
	if e := v.turns(p); e != api.OK {
		return e
	}
	if len(data) > api.MaxFile {
		return api.ErrBig
	}
	there, e := v.resolve(p)
	if e == api.ErrMissing {
		return v.place(p, api.KindFile, data)
	}
	if e != api.OK {
		return e
	}
	if there.Kind == api.KindDir {
		return api.ErrDir
	}
	return v.put(api.Entry{Path: there.Path, Kind: api.KindFile, Data: data})
}

// Make lets a directory stand there.
func (v *View) Make(p string) api.Errno {
	if e := v.turns(p); e != api.OK {
		return e
	}
	if _, e := v.resolve(p); e == api.OK {
		return api.ErrThere
	}
	return v.place(p, api.KindDir, "")
}

// place lets a thing stand where nothing did.
func (v *View) place(p string, kind int, data string) api.Errno {
	there, e := v.spot(p)
	if e != api.OK {
		return e
	}
	// It is a link that leads nowhere: nothing is placed through it.
	if there.Kind != api.KindNone {
		return api.ErrMissing
	}
	return v.put(api.Entry{Path: there.Path, Kind: kind, Data: data})
}

// Remove lets nothing stand there.
func (v *View) Remove(p string) api.Errno {
	if e := v.turns(p); e != api.OK {
		return e
	}
	there, e := v.spot(p)
	if e != api.OK {
		return e
	}
	switch there.Kind {
	case api.KindNone:
		return api.ErrMissing
	case api.KindDir:
		v.list(there.Path)
		if len(v.names(there.Path)) > 0 {
			return api.ErrThere
		}
	}
	if v.ground.at(there.Path).Kind == api.KindNone {
		v.drop(there.Path)
		return api.OK
	}
	return v.put(api.Entry{Path: there.Path})
}

// spot is what stands at a path's last name, in the directory to which its other names lead; its Path is told of nothing, too. A link there is not followed.
func (v *View) spot(p string) (api.Entry, api.Errno) {
	up, name, _ := path.Split(p)
	dir, e := v.resolve(up)
	if e != api.OK {
		return api.Entry{}, e
	}
	if dir.Kind == api.KindFile {
		return api.Entry{}, api.ErrFile
	}
	at, e := path.Join(dir.Path, name)
	if e != api.OK {
		return api.Entry{}, e
	}
	return v.look(at), api.OK
}
