package lines

import (
	"strconv"

	"dotterel/api"
)

func putAct(out []byte, a api.Act) []byte {
	out = append(out, acts[a.Kind]...)
	switch a.Kind {
	case api.Do:
		return putOperation(append(out, blank...), a.Operation)
	case api.Crash:
		return putNumber(append(out, blank...), a.Pick)
	case api.Swap:
		return putText(append(out, blank...), a.Source)
	}
	return out
}

func putOperation(out []byte, o api.Operation) []byte {
	out = append(append(out, operations[o.Kind]...), blank...)
	switch o.Kind {
	case api.Insert:
		return putEvent(append(out, o.Type...), o.Span, o.Values)
	case api.Advance:
		return putFlag(append(putNumber(out, o.Delta), blank...), o.Collect)
	}
	return append(out, o.Type...)
}

// putEvent: what stands of an event behind its type.
func putEvent(out []byte, s api.Span, l []api.Value) []byte {
	out = putNumber(append(out, blank...), s.Start)
	out = putNumber(append(out, blank...), s.End)
	for _, v := range l {
		out = putValue(append(out, blank...), v)
	}
	return out
}

func putValue(out []byte, v api.Value) []byte {
	if v.Kind == api.Text {
		return putText(out, v.Text)
	}
	return putNumber(out, v.Int)
}

func putNumber(out []byte, n int) []byte { return strconv.AppendInt(out, int64(n), 10) }

func putFlag(out []byte, is bool) []byte {
	if is {
		return append(out, yes...)
	}
	return append(out, no...)
}

func putText(out []byte, s string) []byte {
	out = append(out, dot)
	for i := range len(s) {
		out = append(out, digits[s[i]>>4], digits[s[i]&15])
	}
	return out
}
