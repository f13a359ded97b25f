package lines

import (
	"strconv"
	"strings"

	"dotterel/api"
)

// reader of a line: its words that are left, whether there are any (an empty one is one, too), and whether anything was wrong.
type reader struct {
	rest  string
	more  bool
	wrong bool
}

// readAct of a line, if it is in form.
func readAct(line string) (api.Act, bool) {
	r := reader{rest: line, more: true}
	a := r.act()
	return a, !r.more && !r.wrong
}

func (r *reader) act() api.Act {
	a := api.Act{Kind: actKind(r.word())}
	switch a.Kind {
	case api.Do:
		a.Operation = r.operation()
	case api.Sync:
	case api.Crash:
		a.Pick = r.number()
	case api.Swap:
		a.Source = r.text()
	default:
		r.wrong = true
	}
	return a
}

func (r *reader) operation() api.Operation {
	o := api.Operation{Kind: operationKind(r.word())}
	switch o.Kind {
	case api.Insert:
		o.Type = r.name()
		o.Span.Start = r.number()
		o.Span.End = r.number()
		o.Values = r.values()
	case api.Advance:
		o.Delta = r.number()
		o.Collect = r.flag()
	case api.Query:
		o.Type = r.name()
	default:
		r.wrong = true
	}
	return o
}

func (r *reader) word() string {
	if !r.more {
		r.wrong = true
		return ""
	}
	var w string
	w, r.rest, r.more = strings.Cut(r.rest, blank)
	return w
}

// name: whether it may be one is no matter of form. It is copied, so that an act does not hold all lines in memory.
func (r *reader) name() string { return strings.Clone(r.word()) }

// number: each one has just one form, the one in which it is written.
func (r *reader) number() int {
	w := r.word()
	n, err := strconv.Atoi(w)
	if err != nil || strconv.Itoa(n) != w {
		r.wrong = true
	}
	return n
}

func (r *reader) flag() bool {
	w := r.word()
	if w != yes && w != no {
		r.wrong = true
	}
	return w == yes
}

// values up to the line's end, even if they are more than may be: that is told behind what is wrong with the form of one.
func (r *reader) values() []api.Value {
	var l []api.Value
	for r.more && !r.wrong {
		l = append(l, r.value())
	}
	return l
}

func (r *reader) value() api.Value {
	if len(r.rest) > 0 && r.rest[0] == dot {
		return api.Value{Kind: api.Text, Text: r.text()}
	}
	return api.Value{Kind: api.Int, Int: r.number()}
}

func (r *reader) text() string {
	w := r.word()
	// A dot and two digits for each byte: they are odd in number.
	if len(w)%2 == 0 || w[0] != dot {
		r.wrong = true
		return ""
	}
	b := make([]byte, 0, len(w)/2)
	for i := 1; i < len(w); i += 2 {
		high, low := strings.IndexByte(digits, w[i]), strings.IndexByte(digits, w[i+1])
		if high < 0 || low < 0 {
			r.wrong = true
			return ""
		}
		b = append(b, byte(high<<4+low))
	}
	return string(b)
}
