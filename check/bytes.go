package check

import (
	"treadle/api"
	"treadle/sha"
	"treadle/wire"
)

// tag is the purpose for which a face's bytes are hashed.
const tag = "face"

// Bytes are a face's bytes.
func Bytes(f api.Face) ([]byte, api.Errno) {
	if !Right(f) {
		return nil, api.ErrForm
	}
	out := wire.PutUint(nil, uint64(len(f.Consts)))
	for _, c := range f.Consts {
		out = append(out, constBytes(c)...)
	}
	out = append(out, wire.PutUint(nil, uint64(len(f.Funcs)))...)
	for _, x := range f.Funcs {
		out = append(out, sigBytes(x)...)
	}
	return out, api.OK
}

func constBytes(c api.Bind) []byte {
	head := wire.PutUint(wire.PutText(nil, c.Name), uint64(c.Value.Type))
	switch c.Value.Type {
	case api.TypeInt:
		return wire.PutInt(head, c.Value.Int)
	case api.TypeBool:
		return wire.PutBool(head, c.Value.Bool)
	}
	return wire.PutText(head, c.Value.Text)
}

func sigBytes(f api.Sig) []byte {
	b := wire.PutUint(wire.PutText(nil, f.Name), uint64(len(f.Params)))
	for _, t := range f.Params {
		b = wire.PutUint(b, uint64(t))
	}
	return wire.PutUint(b, uint64(f.Result))
}

// Read is the face of bytes.
func Read(b []byte) (api.Face, api.Fault) {
	r := wire.NewReader(b)
	consts, f := readRow(r, readConst, mayFollow)
	if f.Why != api.OK {
		return api.Face{}, f
	}
	funcs, f := readRow(r, readSig, mayStandBeside(consts))
	if f.Why != api.OK {
		return api.Face{}, f
	}
	if f := r.End(); f.Why != api.OK {
		return api.Face{}, f
	}
	return api.Face{Consts: consts, Funcs: funcs}, api.Fault{}
}

// readRow reads a list, up to the first of it that may not stand behind those ahead of it. That one's fault is told here, since Fail would tell the place behind it.
func readRow[T any](r *wire.Reader, read func(*wire.Reader) T, may func(ahead []T, x T) bool) ([]T, api.Fault) {
	var l []T
	for range r.Count(api.MaxDecls) {
		begin := r.At()
		x := read(r)
		if f := r.Fault(); f.Why != api.OK {
			return nil, f
		}
		if !may(l, x) {
			return nil, api.Fault{Why: api.ErrForm, At: begin}
		}
		l = append(l, x)
	}
	return l, r.Fault()
}

func readConst(r *wire.Reader) api.Bind {
	c := api.Bind{Name: r.Text(api.MaxWord)}
	c.Value.Type = readType(r)
	switch c.Value.Type {
	case api.TypeInt:
		c.Value.Int = r.Int()
	case api.TypeBool:
		c.Value.Bool = r.Bool()
	case api.TypeText:
		c.Value.Text = r.Text(api.MaxText)
	}
	return c
}

func readSig(r *wire.Reader) api.Sig {
	f := api.Sig{Name: r.Text(api.MaxWord)}
	for range r.Count(api.MaxVars) {
		f.Params = append(f.Params, readType(r))
	}
	f.Result = readType(r)
	return f
}

// readType takes TypeNone, too: where it may not stand, the face would not be right.
func readType(r *wire.Reader) api.Type { return api.Type(r.Count(int(api.TypeText))) }

// Digest is a face's digest.
func Digest(f api.Face) (api.Digest, api.Errno) {
	b, e := Bytes(f)
	if e != api.OK {
		return api.Digest{}, e
	}
	return sha.Tagged(tag, b)
}
