package tape

import (
	"dotterel/api"
	"dotterel/wire"
)

// head: so many bytes ahead of an act's own tell their number.
const head = 2

// swapped: the first byte of a Swap, where a Do has its operation's Kind, which is not 0.
const swapped = 0

// encode an act's own bytes; what Check refuses.
func encode(a api.Act) ([]byte, api.Errno) {
	if e := Check(a); e != api.OK {
		return nil, e
	}
	if a.Kind == api.Swap {
		return append([]byte{swapped}, a.Source...), api.OK
	}
	return wire.Encode(a.Operation)
}

// decode an act from its own bytes, if they are such of one that may be.
func decode(b []byte) (api.Act, bool) {
	if len(b) > 0 && b[0] == swapped {
		a := api.Act{Kind: api.Swap, Source: string(b[1:])}
		return a, Check(a) == api.OK
	}
	o, e := wire.Decode(b)
	return api.Act{Kind: api.Do, Operation: o}, e == api.OK
}

// whole act at the beginning of bytes, and how many of them are its; false: none stands there whole.
func whole(b []byte) (api.Act, int, bool) {
	if len(b) < head {
		return api.Act{}, 0, false
	}
	end := head + int(b[0])<<8 + int(b[1])
	if len(b) < end {
		return api.Act{}, 0, false
	}
	a, ok := decode(b[head:end:end])
	return a, end, ok
}

// empty: has an operation nothing at all?
func empty(o api.Operation) bool {
	return o.Kind == 0 && o.Type == "" && o.Span == api.Span{} && len(o.Values) == 0 && o.Delta == 0 && !o.Collect
}
