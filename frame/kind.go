package frame

import (
	"slices"

	"treadle/api"
	"treadle/wire"
)

// greatestLimit is what a limit may be at most in bytes that are read.
const greatestLimit = 1 << 31

// kind is a row of the table of kinds: all that parts one from another.
type kind struct {
	number int
	own    func(f api.Frame) api.Frame            // f with those fields alone that the kind has
	may    func(f api.Frame) bool                 // whether what these fields hold may be
	lay    func(b []byte, f api.Frame) []byte     // b, and these fields behind it
	read   func(r *reader, f api.Frame) api.Frame // f, and these fields as they stand in bytes
}

func kinds() [6]kind {
	return [6]kind{
		{api.FrameHello, ownHello, mayHello, layHello, readHello},
		{api.FrameRequest, ownRequest, mayRequest, layRequest, readRequest},
		{api.FrameResponse, ownResponse, mayResponse, layResponse, readResponse},
		{api.FrameCancel, ownCancel, mayAlways, layCancel, readCancel},
		{api.FrameBye, ownBye, mayAlways, layBye, readBye},
		{api.FrameNote, ownNote, mayAlways, layNote, readNote},
	}
}

func kindOf(number int) (kind, bool) {
	for _, k := range kinds() {
		if k.number == number {
			return k, true
		}
	}
	return kind{}, false
}

// plan is a frame's kind, and how many bytes its body has; or why it may not be.
func plan(f api.Frame) (kind, int, api.Errno) {
	k, ok := kindOf(f.Kind)
	if !ok || !Same(f, k.own(f)) || !k.may(f) {
		return kind{}, 0, api.ErrFrame
	}
	size := k.size(f)
	if size > api.MaxFrame {
		return kind{}, 0, api.ErrLong
	}
	return k, size, api.OK
}

// size lays down all but the Body, which may be far too long: that one is reckoned. Of a kind without a Body there is the empty one in f, which adds nothing.
func (k kind) size(f api.Frame) int {
	long := len(f.Body)
	f.Body = ""
	return len(k.lay(putCounts(nil, f.Kind), f)) + wire.Size(uint64(long)) - wire.Size(0) + long
}

// putCounts lays down numbers that are not below 0.
func putCounts(b []byte, l ...int) []byte {
	for _, n := range l {
		b = wire.PutUint(b, uint64(n))
	}
	return b
}

func mayAlways(f api.Frame) bool { return true }

func ownHello(f api.Frame) api.Frame {
	return api.Frame{Kind: f.Kind, Version: f.Version, Slots: f.Slots, Tool: f.Tool}
}

func mayHello(f api.Frame) bool {
	return f.Version == api.Version && f.Slots >= 1 && f.Slots <= api.MaxSlots
}

func layHello(b []byte, f api.Frame) []byte {
	return append(putCounts(b, f.Version, f.Slots), f.Tool[:]...)
}

func readHello(r *reader, f api.Frame) api.Frame {
	f.Version = r.some(api.Version)
	f.Slots = r.some(api.MaxSlots)
	copy(f.Tool[:], r.Raw(len(f.Tool)))
	return f
}

func ownRequest(f api.Frame) api.Frame {
	return api.Frame{Kind: f.Kind, Id: f.Id, Limits: f.Limits, Args: f.Args, Body: f.Body}
}

func mayRequest(f api.Frame) bool {
	l := f.Limits
	tooLong := func(s string) bool { return len(s) > api.MaxWritten }
	return l.Modules >= 0 && l.Fuel >= 0 && l.Diags >= 0 &&
		len(f.Args) <= api.MaxArgs && !slices.ContainsFunc(f.Args, tooLong)
}

func layRequest(b []byte, f api.Frame) []byte {
	b = wire.PutUint(b, f.Id)
	b = putCounts(b, f.Limits.Modules, f.Limits.Fuel, f.Limits.Diags)
	b = wire.PutList(b, f.Args...)
	return wire.PutText(b, f.Body)
}

func readRequest(r *reader, f api.Frame) api.Frame {
	f.Id = r.Uint()
	f.Limits.Modules = r.Count(greatestLimit)
	f.Limits.Fuel = r.Count(greatestLimit)
	f.Limits.Diags = r.Count(greatestLimit)
	f.Args = r.List(api.MaxArgs, api.MaxWritten)
	f.Body = r.Text(api.MaxFrame)
	return f
}

func ownResponse(f api.Frame) api.Frame {
	return api.Frame{Kind: f.Kind, Id: f.Id, Status: f.Status, Body: f.Body}
}

func mayResponse(f api.Frame) bool {
	switch f.Status {
	case api.StatusDone:
		return true
	case api.StatusStopped, api.StatusRefused:
		return f.Body == ""
	}
	return false
}

func layResponse(b []byte, f api.Frame) []byte {
	return wire.PutText(putCounts(wire.PutUint(b, f.Id), f.Status), f.Body)
}

func readResponse(r *reader, f api.Frame) api.Frame {
	f.Id = r.Uint()
	f.Status = r.some(api.StatusRefused)
	f.Body = r.Text(api.MaxFrame)
	return f
}

func ownCancel(f api.Frame) api.Frame { return api.Frame{Kind: f.Kind, Id: f.Id} }

func layCancel(b []byte, f api.Frame) []byte { return wire.PutUint(b, f.Id) }

func readCancel(r *reader, f api.Frame) api.Frame {
	f.Id = r.Uint()
	return f
}

func ownBye(f api.Frame) api.Frame { return api.Frame{Kind: f.Kind} }

func layBye(b []byte, f api.Frame) []byte { return b }

func readBye(r *reader, f api.Frame) api.Frame { return f }

func ownNote(f api.Frame) api.Frame { return api.Frame{Kind: f.Kind, Body: f.Body} }

func layNote(b []byte, f api.Frame) []byte { return wire.PutText(b, f.Body) }

func readNote(r *reader, f api.Frame) api.Frame {
	f.Body = r.Text(api.MaxFrame)
	return f
}
