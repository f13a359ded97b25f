package sift

import (
	"fmt"
	"math"
	"math/rand"
	"reflect"
	"slices"
	"testing"

	"dotterel/api"
	"dotterel/check"
	"dotterel/value"
)

// looked: an event by the names of its fields.
type looked map[string]api.Value

// meaning of a condition, by the pattern's own event, and by those of whens with their names.
type meaning func(own looked, others map[string]looked) bool

// sense of a side of a comparison: its value, likewise.
type sense func(own looked, others map[string]looked) api.Value

// drawer of books. Each condition is drawn as a text, together with what it means, so that nothing of what is tested is needed to know that.
type drawer struct {
	*rand.Rand
	types []api.Type
}

func pick[T any](d drawer, l ...T) T { return l[d.Intn(len(l))] }

// when that a pattern may name.
type when struct {
	name string
	kind api.Type
}

// pattern that was drawn: the place of its type, and what its condition means.
type pattern struct {
	kind  int
	means meaning
}

// drawn book: its text, its patterns by their places, and of each rule its whens.
type drawn struct {
	source   string
	patterns map[place]pattern
	places   []place // of the patterns, as they were drawn
	whens    [][]when
}

func (b *drawn) add(at place, p pattern) {
	b.patterns[at] = p
	b.places = append(b.places, at)
}

// drawTypes: three, with some of four fields, in any order.
func (d *drawer) drawTypes() string {
	s := ""
	for _, name := range []string{"a", "b", "c"} {
		t := api.Type{Name: name}
		fields := []api.Field{{Name: "n", Kind: api.Int}, {Name: "m", Kind: api.Int}, {Name: "s", Kind: api.Text}, {Name: "t", Kind: api.Text}}
		d.Shuffle(len(fields), func(i, k int) { fields[i], fields[k] = fields[k], fields[i] })
		t.Fields = fields[:d.Intn(len(fields)+1)]
		d.types = append(d.types, t)
		s += "type " + name + " { "
		for i, f := range t.Fields {
			if i > 0 {
				s += ", "
			}
			s += f.Name + " : " + map[int]string{api.Int: "int", api.Text: "text"}[f.Kind] + " "
		}
		s += "} "
	}
	return s
}

func (d drawer) value(kind int) api.Value {
	if kind == api.Int {
		return num(pick(d, -1, 0, 1, 2))
	}
	return text(pick(d, "", "p", "pq", "q"))
}

// constant of a kind: its text, and itself.
func (d drawer) constant(kind int) (string, sense) {
	v := d.value(kind)
	s := fmt.Sprint(max(v.Int, -v.Int))
	if v.Int < 0 {
		s = "- " + s
	}
	if kind == api.Text {
		s = `"` + v.Text + `"`
	}
	return s, func(looked, map[string]looked) api.Value { return v }
}

// side of a comparison of values of a kind; where there is no such field, a constant.
func (d drawer) side(kind int, own api.Type, ahead []when) (string, sense) {
	var texts []string
	var senses []sense
	for _, f := range own.Fields {
		if f.Kind == kind {
			texts = append(texts, f.Name)
			senses = append(senses, func(own looked, _ map[string]looked) api.Value { return own[f.Name] })
		}
	}
	for _, w := range ahead {
		for _, f := range w.kind.Fields {
			if f.Kind == kind {
				texts = append(texts, w.name+" . "+f.Name)
				senses = append(senses, func(_ looked, others map[string]looked) api.Value { return others[w.name][f.Name] })
			}
		}
	}
	if len(texts) == 0 || d.Intn(4) == 0 {
		return d.constant(kind)
	}
	i := d.Intn(len(texts))
	return texts[i], senses[i]
}

func (d drawer) comparison(own api.Type, ahead []when) (string, meaning) {
	kind := pick(d, api.Int, api.Text)
	left, x := d.side(kind, own, ahead)
	right, y := d.side(kind, own, ahead)
	mark := pick(d, "=", "/=", "<", "<=", ">", ">=")
	return left + " " + mark + " " + right, func(own looked, others map[string]looked) bool {
		a, b := x(own, others), y(own, others)
		less, greater := a.Int < b.Int || a.Text < b.Text, a.Int > b.Int || a.Text > b.Text
		return map[string]bool{"=": !less && !greater, "/=": less || greater, "<": less, "<=": !greater, ">": greater, ">=": !less}[mark]
	}
}

// condition, with so many more within one another at most, and so many comparisons at most.
func (d drawer) condition(deep, tests int, own api.Type, ahead []when) (string, meaning) {
	kind := pick(d, "and", "or", "not", "")
	if deep == 0 || tests < 2 || kind == "" {
		return d.comparison(own, ahead)
	}
	if kind == "not" {
		s, m := d.condition(deep-1, tests, own, ahead)
		return "not ( " + s + " )", func(own looked, others map[string]looked) bool { return !m(own, others) }
	}
	n := 2 + d.Intn(min(tests, 3)-1)
	s, m := d.condition(deep-1, tests/n, own, ahead)
	s = "( " + s + " )"
	for range n - 1 {
		another, k := d.condition(deep-1, tests/n, own, ahead)
		s += " " + kind + " ( " + another + " )"
		first := m
		m = func(own looked, others map[string]looked) bool {
			x, y := first(own, others), k(own, others)
			if kind == "and" {
				return x && y
			}
			return x || y
		}
	}
	return s, m
}

// pattern of some type: its text behind its name.
func (d drawer) pattern(ahead []when) (string, pattern) {
	p := pattern{kind: d.Intn(len(d.types)), means: func(looked, map[string]looked) bool { return true }}
	own := d.types[p.kind]
	s := " : " + own.Name + " "
	if d.Intn(5) > 0 {
		var where string
		where, p.means = d.condition(3, 6, own, ahead)
		s += "[ " + where + " ] "
	}
	return s, p
}

// rule at a place.
func (d drawer) rule(at int, b *drawn) {
	var whens []when
	b.source += fmt.Sprint("rule r", at, " { ")
	names := []string{"x", "y", "z", "u"}
	d.Shuffle(len(names), func(i, k int) { names[i], names[k] = names[k], names[i] })
	for i := range 1 + d.Intn(api.MaxWhens) {
		s, p := d.pattern(whens)
		b.source += "when " + names[i] + s + pick(d, "", "over time 2 ", "over last 3 ") + "; "
		b.add(place{at, 0, i}, p)
		whens = append(whens, when{names[i], d.types[p.kind]})
	}
	for i := range d.Intn(api.MaxNots + 1) {
		s, p := d.pattern(whens)
		b.source += fmt.Sprint("not e", i, s, "; ")
		b.add(place{at, 1, i}, p)
	}
	for i := range d.Intn(api.MaxManies + 1) {
		s, p := d.pattern(whens)
		b.source += fmt.Sprint("many 2 f", i, s, "within 4 ; ")
		b.add(place{at, 2, i}, p)
	}
	b.source += "} "
	b.whens = append(b.whens, whens)
}

func (d *drawer) book() drawn {
	b := drawn{source: d.drawTypes(), patterns: map[place]pattern{}}
	for i := range 1 + d.Intn(2) {
		d.rule(i, &b)
	}
	return b
}

// event of the type at a place.
func (d drawer) event(kind int) api.Event {
	x := api.Event{Number: 1 + d.Intn(api.MaxCount), Type: kind, Span: api.Span{Start: d.Intn(5), End: 5 + d.Intn(9)}}
	for _, f := range d.types[kind].Fields {
		x.Values = append(x.Values, d.value(f.Kind))
	}
	return x
}

// known events for the pattern at a place.
func (d drawer) known(b drawn, p place) []api.Event {
	l := b.whens[p.rule]
	if p.part == 0 {
		l = l[:p.at]
	}
	var out []api.Event
	for _, w := range l {
		out = append(out, d.event(slices.IndexFunc(d.types, func(t api.Type) bool { return t.Name == w.kind.Name })))
	}
	return out
}

// look at an event by the names of its fields.
func (d drawer) look(x api.Event) looked {
	l := looked{}
	for i, f := range d.types[x.Type].Fields {
		l[f.Name] = x.Values[i]
	}
	return l
}

// judged: what the chapter asks of a drawn book, which may be, in its order.
func (d drawer) judged(b drawn, p place, x api.Event, known []api.Event) (bool, api.Errno) {
	q, ok := b.patterns[p]
	if !ok {
		return false, api.ErrRange
	}
	for _, y := range append(events(x), known...) {
		if e := value.CheckEvent(d.types, y); e != api.OK {
			return false, e
		}
	}
	whens := b.whens[p.rule]
	if p.part == 0 {
		whens = whens[:p.at]
	}
	if len(known) != len(whens) {
		return false, api.ErrForm
	}
	others := map[string]looked{}
	for i, w := range whens {
		if d.types[known[i].Type].Name != w.kind.Name {
			return false, api.ErrType
		}
		others[w.name] = d.look(known[i])
	}
	return x.Type == q.kind && q.means(d.look(x), others), api.OK
}

// spoil an event, in one way or in none.
func (d drawer) spoil(x *api.Event) {
	switch d.Intn(8) {
	case 0:
		x.Number = pick(d, 0, -1, api.MaxCount+1)
	case 1:
		x.Type = pick(d, -1, 3, math.MaxInt, d.Intn(3))
	case 2:
		x.Span.Start = pick(d, -1, 99, api.MaxTime+1)
	case 3:
		x.Values = append(slices.Clone(x.Values), num(1))
	case 4:
		if len(x.Values) > 0 {
			x.Values = slices.Clone(x.Values)
			x.Values[d.Intn(len(x.Values))] = pick(d, api.Value{}, num(api.MaxInt+1), text("s"), num(1), api.Value{Kind: 1, Text: "s"})
		}
	case 5:
		*x = d.event(d.Intn(len(d.types)))
	}
}

// TestDrawn: P10.1, P10.2: each pattern of drawn books, of events of its type and of others, against what was drawn.
func TestDrawn(t *testing.T) {
	seen := map[string]int{}
	for seed := range 2000 {
		d := drawer{Rand: rand.New(rand.NewSource(int64(seed)))}
		made := d.book()
		b := read(t, made.source)
		if e := check.Check(b); e != api.OK {
			t.Fatalf("%s: %v", made.source, e)
		}
		for _, p := range made.places {
			q := made.patterns[p]
			for range 6 {
				x, known := d.event(pick(d, q.kind, q.kind, d.Intn(3))), d.known(made, p)
				ok, e := d.judged(made, p, x, known)
				want(t, made.source, b, p, x, known, ok, e)
				seen[fmt.Sprint("part ", p.part, " ", ok, " ", e, " own type ", x.Type == q.kind)]++
			}
		}
		if t.Failed() {
			return
		}
	}
	for part := range 3 {
		for _, s := range []string{"true refused 0 own type true", "false refused 0 own type true", "false refused 0 own type false"} {
			if s := fmt.Sprint("part ", part, " ", s); seen[s] < 1000 {
				t.Errorf("%s: just %d times: %v", s, seen[s], seen)
			}
		}
	}
}

// TestSpoilt: P10.1: the same, with events and places that are spoilt in several ways at once.
func TestSpoilt(t *testing.T) {
	seen := map[api.Errno]int{}
	for seed := range 3000 {
		d := drawer{Rand: rand.New(rand.NewSource(int64(seed)))}
		made := d.book()
		b := read(t, made.source)
		for _, p := range made.places {
			x, known := d.event(d.Intn(3)), d.known(made, p)
			if d.Intn(3) == 0 {
				p = place{p.rule + d.Intn(3) - 1, p.part + d.Intn(3) - 1, p.at + d.Intn(3) - 1}
			}
			if d.Intn(3) == 0 {
				d.spoil(&x)
			}
			if d.Intn(4) == 0 {
				known = append(known, d.event(d.Intn(3)))
			}
			if d.Intn(4) == 0 && len(known) > 0 {
				known = known[1:]
			}
			for i := range known {
				if d.Intn(2) == 0 {
					d.spoil(&known[i])
				}
			}
			ok, e := d.judged(made, p, x, known)
			want(t, made.source, b, p, x, known, ok, e)
			seen[e]++
		}
		if t.Failed() {
			return
		}
	}
	for _, e := range []api.Errno{api.OK, api.ErrRange, api.ErrForm, api.ErrNone, api.ErrType, api.ErrOrder, api.ErrKind} {
		if seen[e] < 20 {
			t.Errorf("%v: just %d times: %v", e, seen[e], seen)
		}
	}
}

// leaves of a value: its numbers, texts and lists, at any depth.
func leaves(v reflect.Value) []reflect.Value {
	switch v.Kind() {
	case reflect.Struct:
		var l []reflect.Value
		for i := range v.NumField() {
			l = append(l, leaves(v.Field(i))...)
		}
		return l
	case reflect.Slice:
		l := []reflect.Value{v}
		for i := range v.Len() {
			l = append(l, leaves(v.Index(i))...)
		}
		return l
	}
	return []reflect.Value{v}
}

// wreck one leaf of what is given.
func (d drawer) wreck(given any) {
	l := leaves(reflect.ValueOf(given).Elem())
	v := l[d.Intn(len(l))]
	switch v.Kind() {
	case reflect.Int:
		v.SetInt(pick(d, int64(-1), 0, 1, 2, 3, 4, 7, 8, 1<<30+1, 1<<51, math.MaxInt, math.MinInt))
	case reflect.String:
		v.SetString(pick(d, "", "a", "x", "n", "s", "when", "A", "0", "\xff", "abcdefghijklmnopqrstuvwxyz"))
	case reflect.Slice:
		if d.Intn(2) == 0 {
			v.Set(v.Slice(0, v.Len()/2))
		} else {
			v.Set(reflect.AppendSlice(v, v))
		}
	}
}

// refused: what the chapter asks ahead of any condition, in its order, of any book.
func refused(b api.Book, p place, x api.Event, known []api.Event) api.Errno {
	if e := check.Check(b); e != api.OK {
		return e
	}
	if p.rule < 0 || p.rule >= len(b.Rules) {
		return api.ErrRange
	}
	r := b.Rules[p.rule]
	places := map[int]int{0: len(r.Whens), 1: len(r.Nots), 2: len(r.Manies)}
	if p.at < 0 || p.at >= places[p.part] {
		return api.ErrRange
	}
	for _, y := range append(events(x), known...) {
		if e := value.CheckEvent(b.Types, y); e != api.OK {
			return e
		}
	}
	if p.part == 0 {
		places[0] = p.at
	}
	if len(known) != places[0] {
		return api.ErrForm
	}
	for i, y := range known {
		if b.Types[y.Type].Name != r.Whens[i].Type {
			return api.ErrType
		}
	}
	return api.OK
}

// TestWrecked: P10.1: books and events that are wrecked at any place are refused as the chapter says; no call panics, and none answers true with an error.
func TestWrecked(t *testing.T) {
	seen := map[string]int{}
	for seed := range 4000 {
		d := drawer{Rand: rand.New(rand.NewSource(int64(seed)))}
		made := d.book()
		b := read(t, made.source)
		for range 1 + d.Intn(2) {
			d.wreck(&b)
		}
		for _, p := range made.places {
			x, known := d.event(d.Intn(3)), d.known(made, p)
			if d.Intn(3) == 0 {
				d.wreck(&x)
			}
			if d.Intn(3) == 0 {
				d.wreck(&known)
			}
			wantE := refused(b, p, x, known)
			if ok, e := Takes(b, p.rule, p.part, p.at, x, known); e != wantE || ok && e != api.OK {
				t.Fatalf("%+v at %v: %v with %v: %v, %v; want %v", b, p, x, known, ok, e, wantE)
			}
			seen[fmt.Sprint("the book ", check.Check(b) == api.OK, ", all ", wantE == api.OK)]++
		}
	}
	for _, s := range []string{"the book true, all true", "the book true, all false", "the book false, all false"} {
		if seen[s] < 200 {
			t.Errorf("%s: just %d times: %v", s, seen[s], seen)
		}
	}
}

// given to one call, all of it.
type given struct {
	Book  api.Book
	X     api.Event
	Known []api.Event
}

// TestUnchanged: Takes changes nothing that it is given, spare room neither; and it keeps nothing: what was answered once is answered again.
func TestUnchanged(t *testing.T) {
	for seed := range 60 {
		d := drawer{Rand: rand.New(rand.NewSource(int64(seed)))}
		made := d.book()
		b := read(t, made.source)
		if seed%4 == 0 {
			d.wreck(&b)
		}
		for _, p := range made.places {
			x, known := d.event(made.patterns[p].kind), d.known(made, p)
			if d.Intn(4) == 0 {
				d.spoil(&x)
			}
			if d.Intn(4) == 0 && len(known) > 0 {
				d.spoil(&known[d.Intn(len(known))])
			}
			g, was := roomy(given{b, x, known}), roomy(given{b, x, known})
			ok, e := Takes(g.Book, p.rule, p.part, p.at, g.X, g.Known)
			if !sameRoom(reflect.ValueOf(g), reflect.ValueOf(was)) {
				t.Fatalf("%s: changed: %+v; it was %+v", made.source, g, was)
			}
			for _, other := range made.places {
				Takes(g.Book, other.rule, other.part, other.at, d.event(d.Intn(3)), d.known(made, other))
			}
			if ok2, e2 := Takes(g.Book, p.rule, p.part, p.at, g.X, g.Known); ok2 != ok || e2 != e {
				t.Fatalf("%s: %v, %v, then %v, %v", made.source, ok, e, ok2, e2)
			}
		}
	}
}

// roomy: a copy of what is given, with spare room behind each list that is not empty itself.
func roomy(g given) given { return copied(reflect.ValueOf(g), 2).Interface().(given) }

// copied: a copy of all of a value, with so much spare room in its lists, filled with their first elements.
func copied(v reflect.Value, room int) reflect.Value {
	out := reflect.New(v.Type()).Elem()
	out.Set(v)
	switch v.Kind() {
	case reflect.Struct:
		for i := range v.NumField() {
			out.Field(i).Set(copied(v.Field(i), room))
		}
	case reflect.Slice:
		n := v.Len()
		if n == 0 {
			return reflect.Zero(v.Type())
		}
		out = reflect.MakeSlice(v.Type(), n+room, n+room)
		for i := range n + room {
			out.Index(i).Set(copied(v.Index(i%n), room))
		}
		return out.Slice(0, n)
	}
	return out
}

// sameRoom: are two values the same, in the spare room of their lists too?
func sameRoom(a, b reflect.Value) bool {
	switch a.Kind() {
	case reflect.Struct:
		for i := range a.NumField() {
			if !sameRoom(a.Field(i), b.Field(i)) {
				return false
			}
		}
		return true
	case reflect.Slice:
		if a.Len() != b.Len() || a.Cap() != b.Cap() {
			return false
		}
		for i := range a.Cap() {
			if !sameRoom(a.Slice(0, a.Cap()).Index(i), b.Slice(0, b.Cap()).Index(i)) {
				return false
			}
		}
		return true
	}
	return a.Interface() == b.Interface()
}
