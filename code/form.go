package code

import (
	"strconv"
	"strings"

	"treadle/api"
	"treadle/wire"
)

// Bytes are instructions as bytes.
func Bytes(l ...api.Instr) ([]byte, api.Errno) {
	out := wire.PutUint(nil, uint64(len(l)))
	for _, i := range l {
		if !writable(i) {
			return nil, api.ErrOp
		}
		out = append(out, byte(i.Code))
		if hasNumber(i.Code) {
			out = append(out, wire.PutUint(nil, uint64(i.N))...)
		}
	}
	return out, api.OK
}

// Read are the instructions of bytes.
func Read(b []byte) ([]api.Instr, api.Fault) {
	r := wire.NewReader(b)
	var l []api.Instr
	for range r.Count(api.MaxCode) {
		i, f := readInstr(r)
		if f.Why != api.OK {
			return nil, f
		}
		l = append(l, i)
	}
	if f := r.End(); f.Why != api.OK {
		return nil, f
	}
	return l, api.Fault{}
}

// readInstr tells itself of a code that is none: the reader stands behind that byte already.
func readInstr(r *wire.Reader) (api.Instr, api.Fault) {
	begin := r.At()
	i := api.Instr{Code: api.Code(r.Byte())}
	if f := r.Fault(); f.Why != api.OK {
		return api.Instr{}, f
	}
	if !isCode(i.Code) {
		return api.Instr{}, api.Fault{Why: api.ErrForm, At: begin}
	}
	if hasNumber(i.Code) {
		i.N = r.Count(maxN)
	}
	return i, r.Fault()
}

// Lines are instructions as lines.
func Lines(l ...api.Instr) ([]string, api.Errno) {
	var lines []string
	for _, i := range l {
		if !writable(i) {
			return nil, api.ErrOp
		}
		lines = append(lines, line(i))
	}
	return lines, api.OK
}

func line(i api.Instr) string {
	s := shapes[i.Code].text
	if hasNumber(i.Code) {
		s += " " + strconv.Itoa(i.N)
	}
	return s
}

// Parse are the instructions of lines.
func Parse(lines ...string) ([]api.Instr, api.Fault) {
	var l []api.Instr
	for at, s := range lines {
		i := guess(s)
		// There is one form alone: what was read must be written as it stands.
		if !writable(i) || line(i) != s {
			return nil, api.Fault{Why: api.ErrOp, At: at}
		}
		l = append(l, i)
	}
	return l, api.Fault{}
}

// guess is the one instruction whose line s may be.
func guess(s string) api.Instr {
	name, number, _ := strings.Cut(s, " ")
	c, _ := Find(name)
	n, _ := strconv.Atoi(number)
	return api.Instr{Code: c, N: n}
}
