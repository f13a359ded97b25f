package wire

import "dotterel/api"

// digit: a long number's digits are below it; on all but the last one it is added.
const digit = 128

// putLong: a number that is not below 0.
func putLong(out []byte, n int) []byte {
	for n >= digit {
		out = append(out, byte(n%digit+digit))
		n /= digit
	}
	return append(out, byte(n))
}

// putSigned: a number that may be below 0.
func putSigned(out []byte, n int) []byte {
	if n < 0 {
		return putLong(out, 2*(-1-n)+1)
	}
	return putLong(out, 2*n)
}

func putFlag(out []byte, yes bool) []byte {
	if yes {
		return append(out, 1)
	}
	return append(out, 0)
}

func putText(out []byte, s string) []byte {
	return append(append(out, byte(len(s))), s...)
}

func putValue(out []byte, v api.Value) []byte {
	out = append(out, byte(v.Kind))
	if v.Kind == api.Text {
		return putText(out, v.Text)
	}
	return putSigned(out, v.Int)
}

// putEvent: what is told of an event behind its type.
func putEvent(out []byte, s api.Span, l []api.Value) []byte {
	out = putLong(putLong(out, s.Start), s.End)
	out = append(out, byte(len(l)))
	for _, v := range l {
		out = putValue(out, v)
	}
	return out
}
