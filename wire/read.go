package wire

import "dotterel/api"

// mostDigits of a long number: with one more it could leave 64 bits.
const mostDigits = 9

// reader of bytes: those that are left, and the first thing that was wrong.
type reader struct {
	rest  []byte
	wrong api.Errno
}

// refuse what is read. Reading may go on to its end, since nothing that is wrong behind it is told any more.
func (r *reader) refuse(e api.Errno) {
	if r.wrong == api.OK {
		r.wrong = e
	}
}

func (r *reader) operation() api.Operation {
	o := api.Operation{Kind: r.small()}
	switch o.Kind {
	case api.Insert:
		o.Type = r.text()
		o.Span.Start = r.long()
		o.Span.End = r.long()
		o.Values = r.values()
	case api.Advance:
		o.Delta = r.long()
		o.Collect = r.flag()
	case api.Query:
		o.Type = r.text()
	default:
		r.refuse(api.ErrKind)
	}
	return o
}

func (r *reader) small() int {
	if len(r.rest) == 0 {
		r.refuse(api.ErrShort)
		return 0
	}
	c := r.rest[0]
	r.rest = r.rest[1:]
	return int(c)
}

func (r *reader) long() int {
	n := 0
	for i := range mostDigits {
		c := r.small()
		n += (c % digit) << (7 * i)
		if c >= digit {
			continue
		}
		// Each number has one form only.
		if c == 0 && i > 0 {
			r.refuse(api.ErrForm)
		}
		return n
	}
	r.refuse(api.ErrForm)
	return 0
}

func (r *reader) signed() int {
	n := r.long()
	if n%2 == 1 {
		return -1 - n/2
	}
	return n / 2
}

func (r *reader) flag() bool {
	c := r.small()
	if c > 1 {
		r.refuse(api.ErrForm)
	}
	return c == 1
}

func (r *reader) text() string {
	n := r.small()
	if n > len(r.rest) {
		r.refuse(api.ErrShort)
		return ""
	}
	s := string(r.rest[:n])
	r.rest = r.rest[n:]
	return s
}

// values, as many as are told, even if they are more than may be: whether they are read at all is told first.
func (r *reader) values() []api.Value {
	var l []api.Value
	for n := r.small(); n > 0 && r.wrong == api.OK; n-- {
		l = append(l, r.value())
	}
	return l
}

func (r *reader) value() api.Value {
	v := api.Value{Kind: r.small()}
	switch v.Kind {
	case api.Int:
		v.Int = r.signed()
	case api.Text:
		v.Text = r.text()
	default:
		r.refuse(api.ErrForm)
	}
	return v
}
