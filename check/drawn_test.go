package check

import (
	"fmt"
	"math"
	"math/rand"
	"reflect"
	"slices"
	"strings"
	"testing"

	"dotterel/api"
	"dotterel/lex"
	"dotterel/parse"
	"dotterel/tick"
	"dotterel/value"
)

// judge of books: all that the chapter asks is asked, in its order, of whatever is there; the first thing that is told stays.
type judge struct {
	types []api.Type
	told  api.Errno
}

func (j *judge) tell(e api.Errno) {
	if j.told == api.OK {
		j.told = e
	}
}

func (j *judge) ask(bad bool, e api.Errno) {
	if bad {
		j.tell(e)
	}
}

func judged(b api.Book) api.Errno {
	j := judge{types: b.Types}
	j.ask(len(b.Types) > api.MaxTypes || len(b.Rules) > api.MaxRules, api.ErrSize)
	for i, x := range b.Types {
		j.tell(value.CheckType(x))
		j.ask(slices.Contains(keptWords, x.Name), api.ErrForm)
		for _, f := range x.Fields {
			j.ask(slices.Contains(keptWords, f.Name), api.ErrForm)
		}
		for _, y := range b.Types[:i] {
			j.ask(x.Name == y.Name, api.ErrTwice)
		}
	}
	for i, r := range b.Rules {
		j.rule(r)
		for _, s := range b.Rules[:i] {
			j.ask(r.Name == s.Name, api.ErrTwice)
		}
	}
	for _, x := range b.Types {
		j.ask(j.told == api.OK && comesOf(b, x.Name, x.Name, len(b.Types)+1), api.ErrEndless)
	}
	return j.told
}

// comesOf: does an event of the one type come of those of the other, by so many rules at most?
func comesOf(b api.Book, to, from string, most int) bool {
	for _, r := range b.Rules {
		if most == 0 || r.Emit.Type != to {
			continue
		}
		for _, p := range all(r) {
			if p.Type == from || comesOf(b, p.Type, from, most-1) {
				return true
			}
		}
	}
	return false
}

// all patterns of a rule.
func all(r api.Rule) []api.Pattern {
	l := append(slices.Clone(r.Whens), r.Nots...)
	for _, m := range r.Manies {
		l = append(l, m.Pattern)
	}
	return l
}

func (j *judge) name(s string) {
	j.tell(value.Name(s))
	j.ask(slices.Contains(keptWords, s), api.ErrForm)
}

// kindOf a field: 0, if there is none.
func (j *judge) kindOf(kind, field string) int {
	for _, x := range j.types {
		for _, f := range x.Fields {
			if x.Name == kind && f.Name == field {
				return f.Kind
			}
		}
	}
	return 0
}

func (j *judge) hasType(s string) bool {
	return slices.ContainsFunc(j.types, func(x api.Type) bool { return x.Name == s })
}

func (j *judge) rule(r api.Rule) {
	j.name(r.Name)
	j.ask(len(r.Whens) == 0 || len(r.Whens) > 3 || len(r.Nots) > 2 || len(r.Manies) > 2 || len(r.Links) > 6, api.ErrSize)
	l := all(r)
	for i, p := range l {
		part, ahead := whens, r.Whens
		if i < len(r.Whens) {
			ahead = r.Whens[:i]
		} else if part = nots; i >= len(r.Whens)+len(r.Nots) {
			part = manies
		}
		var m api.Many
		if part == manies {
			m = r.Manies[i-len(r.Whens)-len(r.Nots)]
			j.ask(m.Field == "" && (m.Count < 1 || m.Count > 120), api.ErrRange)
			j.ask(m.Field != "" && (m.Count < 0 || m.Count > 1<<50), api.ErrRange)
		}
		j.name(p.Var)
		for _, q := range l[:i] {
			j.ask(p.Var == q.Var, api.ErrTwice)
		}
		j.ask(!j.hasType(p.Type), api.ErrNone)
		j.window(p, part)
		j.condition(p.Where, p.Type, ahead, 1)
		j.ask(m.Field != "" && j.kindOf(p.Type, m.Field) == 0, api.ErrNone)
		j.ask(m.Field != "" && j.kindOf(p.Type, m.Field) != api.Int, api.ErrType)
	}
	for _, k := range r.Links {
		j.link(k, r)
	}
	j.emit(r.Emit, r.Whens)
}

func (j *judge) window(p api.Pattern, part int) {
	j.ask(p.Window < 0 || p.Window > 2 || part == nots && p.Window != 0 || part == manies && p.Window != 1, api.ErrForm)
	j.ask(p.Window == 0 && p.N != 0, api.ErrForm)
	j.ask(p.Window == 1 && (p.N < 0 || p.N > 1<<30), api.ErrRange)
	j.ask(p.Window == 2 && (p.N < 1 || p.N > 120), api.ErrRange)
}

// testsOf a condition: how many comparisons it has.
func testsOf(l ...api.Condition) int {
	n := 0
	for _, c := range l {
		if c.Kind >= api.Equal {
			n++
		}
		n += testsOf(c.Subs...)
	}
	return n
}

func (j *judge) condition(c api.Condition, kind string, ahead []api.Pattern, depth int) {
	empty := reflect.DeepEqual(c, api.Condition{}) || c.Subs != nil && len(c.Subs) == 0 && reflect.DeepEqual(c, api.Condition{Subs: c.Subs})
	if empty && depth == 1 {
		return
	}
	j.ask(c.Kind < 1 || c.Kind > 7, api.ErrKind)
	j.ask(depth > 8, api.ErrDeep)
	if c.Kind > api.Not {
		j.ask(len(c.Subs) != 0, api.ErrForm)
		l, r := j.side(c.Left, kind, ahead), j.side(c.Right, kind, ahead)
		j.ask(l != r, api.ErrType)
		return
	}
	j.ask(!reflect.DeepEqual([2]api.Operand{c.Left, c.Right}, [2]api.Operand{}), api.ErrForm)
	j.ask(c.Kind == api.Not && len(c.Subs) != 1, api.ErrForm)
	j.ask(c.Kind != api.Not && len(c.Subs) < 2, api.ErrForm)
	for i, sub := range c.Subs {
		j.condition(sub, kind, ahead, depth+1)
		j.ask(testsOf(c.Subs[:i+1]...) > 12, api.ErrSize)
	}
}

// side: its kind.
func (j *judge) side(o api.Operand, kind string, ahead []api.Pattern) int {
	j.ask(o.Kind < 1 || o.Kind > 3, api.ErrKind)
	if o.Kind == api.Other {
		at := slices.IndexFunc(ahead, func(p api.Pattern) bool { return p.Var == o.Var })
		j.ask(at < 0, api.ErrNone)
		if at >= 0 {
			kind = ahead[at].Type
		}
	}
	bare := o
	switch o.Kind {
	case api.Constant:
		bare.Var, bare.Field = "", ""
	case api.Own:
		bare.Value, bare.Var = api.Value{}, ""
	default:
		bare.Value = api.Value{}
	}
	j.ask(bare != o, api.ErrForm)
	if o.Kind == api.Constant {
		j.tell(value.Check(o.Value))
		return o.Value.Kind
	}
	j.ask(j.kindOf(kind, o.Field) == 0, api.ErrNone)
	return j.kindOf(kind, o.Field)
}

func (j *judge) link(k api.Link, r api.Rule) {
	of := func(l []api.Pattern, v string) bool {
		return slices.ContainsFunc(l, func(p api.Pattern) bool { return p.Var == v })
	}
	both := slices.Concat(r.Whens, r.Nots)
	j.ask(!of(both, k.Left) || !of(both, k.Right), api.ErrNone)
	j.ask(k.Left == k.Right || of(r.Nots, k.Left) && of(r.Nots, k.Right), api.ErrForm)
	j.ask(len(k.Options) < 1 || len(k.Options) > 6, api.ErrSize)
	for _, o := range k.Options {
		j.tell(tick.CheckOption(o))
	}
}

func (j *judge) emit(m api.Emit, ahead []api.Pattern) {
	if m.Type == "" {
		j.ask(len(m.Values) != 0, api.ErrForm)
		return
	}
	at := slices.IndexFunc(j.types, func(x api.Type) bool { return x.Name == m.Type })
	j.ask(at < 0, api.ErrNone)
	if at < 0 {
		return
	}
	fields := j.types[at].Fields
	j.ask(len(fields) != len(m.Values), api.ErrType)
	for i, o := range m.Values {
		j.ask(o.Kind == api.Own, api.ErrForm)
		kind := j.side(o, "", ahead)
		j.ask(i < len(fields) && fields[i].Kind != kind, api.ErrType)
	}
}

// written: a book as text, by another hand than Show's: brackets stand where something binds no tighter than what is around it.
func written(b api.Book) string {
	var s strings.Builder
	for _, x := range b.Types {
		var l []string
		for _, f := range x.Fields {
			l = append(l, f.Name+" : "+map[int]string{api.Int: "int ", api.Text: "text "}[f.Kind])
		}
		fmt.Fprintf(&s, "type %s { %s} ", x.Name, strings.Join(l, ", "))
	}
	for _, r := range b.Rules {
		fmt.Fprintf(&s, "rule %s { ", r.Name)
		for _, p := range r.Whens {
			fmt.Fprintf(&s, "when %s", writtenPattern(p))
			if p.Window != api.Open {
				fmt.Fprintf(&s, "over %s %d ", []string{"", "time", "last"}[p.Window], p.N)
			}
			s.WriteString("; ")
		}
		for _, p := range r.Nots {
			fmt.Fprintf(&s, "not %s; ", writtenPattern(p))
		}
		for _, m := range r.Manies {
			of := ""
			if m.Field != "" {
				of = "of " + m.Field + " "
			}
			fmt.Fprintf(&s, "many %d %s%swithin %d ; ", m.Count, of, writtenPattern(m.Pattern), m.Pattern.N)
		}
		for _, k := range r.Links {
			var l []string
			for _, o := range k.Options {
				l = append(l, writtenOption(o))
			}
			fmt.Fprintf(&s, "where %s %s %s ; ", k.Left, strings.Join(l, " or "), k.Right)
		}
		if r.Emit.Type != "" {
			var l []string
			for _, o := range r.Emit.Values {
				l = append(l, writtenSide(o)+" ")
			}
			fmt.Fprintf(&s, "emit %s ( %s) ; ", r.Emit.Type, strings.Join(l, ", "))
		}
		s.WriteString("} ")
	}
	return s.String()
}

func writtenPattern(p api.Pattern) string {
	s := p.Var + " : " + p.Type + " "
	if p.Where.Kind == api.Always {
		return s
	}
	return s + "[ " + writtenCondition(p.Where, 0) + " ] "
}

// writtenCondition within what binds so tight: 0 nothing, 1 an or, 2 an and, 3 a not.
func writtenCondition(c api.Condition, around int) string {
	tight := map[int]int{api.Or: 1, api.And: 2}[c.Kind]
	var l []string
	for _, sub := range c.Subs {
		l = append(l, writtenCondition(sub, max(tight, map[int]int{api.Not: 3}[c.Kind])))
	}
	s := ""
	switch c.Kind {
	case api.Or:
		s = strings.Join(l, " or ")
	case api.And:
		s = strings.Join(l, " and ")
	case api.Not:
		return "not " + l[0]
	default:
		return writtenSide(c.Left) + " " + strings.Fields("= /= < <=")[c.Kind-api.Equal] + " " + writtenSide(c.Right)
	}
	if tight <= around {
		return "( " + s + " )"
	}
	return s
}

func writtenSide(o api.Operand) string {
	switch {
	case o.Kind == api.Constant && o.Value.Kind == api.Text:
		return `"` + o.Value.Text + `"`
	case o.Kind == api.Constant:
		return strings.Replace(fmt.Sprint(o.Value.Int), "-", "- ", 1)
	case o.Kind == api.Own:
		return o.Field
	}
	return o.Var + " . " + o.Field
}

func writtenOption(o api.Option) string {
	s := keptWords[16+o.Relation]
	switch {
	case o.High >= 0:
		return fmt.Sprintf("%s ( %d , %d )", s, o.Low, o.High)
	case o.Low > 0:
		return fmt.Sprintf("%s ( %d , any )", s, o.Low)
	}
	return s
}

// drawer of books that may be.
type drawer struct{ *rand.Rand }

func one[T any](d drawer, l ...T) T { return l[d.Intn(len(l))] }

func (d drawer) book() api.Book {
	var b api.Book
	for i := range d.Intn(api.MaxTypes + 1) {
		x := api.Type{Name: []string{"a", "b", "c", "abcdefghij", "e9", "n"}[i]}
		for k := range d.Intn(api.MaxFields + 1) {
			x.Fields = append(x.Fields, api.Field{Name: []string{"n", "s", "m", "t"}[k], Kind: one(d, api.Int, api.Text)})
		}
		b.Types = append(b.Types, x)
	}
	if len(b.Types) == 0 {
		return b
	}
	for i := range d.Intn(api.MaxRules + 1) {
		b.Rules = append(b.Rules, d.rule([]string{"one", "two", "a", "x", "n"}[i], b.Types))
	}
	return b
}

func (d drawer) rule(name string, types []api.Type) api.Rule {
	r := api.Rule{Name: name}
	top := d.Intn(len(types)) // the patterns' types are up to this one, what is emitted is behind it, so that nothing is endless
	if d.Intn(2) == 0 {
		top = 0
	}
	var known []api.Pattern
	pattern := func(v string) api.Pattern {
		x := types[d.Intn(top+1)]
		p := api.Pattern{Var: v, Type: x.Name}
		if d.Intn(2) == 0 {
			tests := api.MaxTests
			p.Where = d.condition(1, &tests, x, known, types)
		}
		return p
	}
	for i := range 1 + d.Intn(api.MaxWhens) {
		p := pattern([]string{"x", "y", "n"}[i])
		switch d.Intn(3) {
		case 0:
			p.Window, p.N = api.Time, one(d, 0, 1, 7, api.MaxGap)
		case 1:
			p.Window, p.N = api.Last, one(d, 1, 2, api.MaxLive)
		}
		r.Whens = append(r.Whens, p)
		known = r.Whens
	}
	for i := range d.Intn(api.MaxNots + 1) {
		r.Nots = append(r.Nots, pattern([]string{"u", "v"}[i]))
	}
	for i := range d.Intn(api.MaxManies + 1) {
		m := api.Many{Count: one(d, 1, 2, api.MaxLive), Pattern: pattern([]string{"p", "q"}[i])}
		m.Pattern.Window, m.Pattern.N = api.Time, one(d, 0, 4, api.MaxGap)
		if f := fieldsOf(types, m.Pattern.Type, api.Int); len(f) > 0 && d.Intn(2) == 0 {
			m.Field, m.Count = one(d, f...), one(d, 0, 1, api.MaxLive+1, api.MaxInt)
		}
		r.Manies = append(r.Manies, m)
	}
	for range d.Intn(4) {
		r.Links = d.link(r)
	}
	if top+1 < len(types) && d.Intn(2) == 0 {
		r.Emit.Type = types[top+1+d.Intn(len(types)-top-1)].Name
		at := slices.IndexFunc(types, func(x api.Type) bool { return x.Name == r.Emit.Type })
		for _, f := range types[at].Fields {
			r.Emit.Values = append(r.Emit.Values, d.side(f.Kind, api.Type{}, r.Whens, types))
		}
	}
	return r
}

// link more, where it can be.
func (d drawer) link(r api.Rule) []api.Link {
	left, right := one(d, r.Whens...), one(d, slices.Concat(r.Whens, r.Nots)...)
	if left.Var == right.Var {
		return r.Links
	}
	if d.Intn(2) == 0 {
		left, right = right, left
	}
	k := api.Link{Left: left.Var, Right: right.Var}
	for range 1 + d.Intn(3) {
		o := api.Option{Relation: 1 + d.Intn(13), Low: one(d, 0, 0, 1, api.MaxGap)}
		o.High = one(d, -1, -1, o.Low, api.MaxGap)
		k.Options = append(k.Options, o)
	}
	return append(slices.Clone(r.Links), k)
}

// condition at a depth, with so many comparisons left.
func (d drawer) condition(depth int, left *int, x api.Type, ahead []api.Pattern, types []api.Type) api.Condition {
	kind := one(d, api.And, api.Or, api.Not, api.Equal)
	if kind == api.Equal || depth == api.MaxDepth || *left < 3 {
		*left--
		of := one(d, api.Int, api.Text)
		return test(api.Equal+d.Intn(4), d.side(of, x, ahead, types), d.side(of, x, ahead, types))
	}
	c := group(kind, d.condition(depth+1, left, x, ahead, types))
	for kind != api.Not && *left > 0 && (len(c.Subs) < 2 || d.Intn(2) == 0) {
		c.Subs = append(c.Subs, d.condition(depth+1, left, x, ahead, types))
	}
	if kind != api.Not && len(c.Subs) < 2 {
		return c.Subs[0]
	}
	return c
}

// side of a kind: a constant, if nothing else is of it.
func (d drawer) side(kind int, x api.Type, ahead []api.Pattern, types []api.Type) api.Operand {
	l := []api.Operand{text(one(d, "", "t", "not", "0123456789abcdefghij"))}
	if kind == api.Int {
		l = []api.Operand{number(one(d, 0, 1, -1, api.MaxInt, -api.MaxInt))}
	}
	for _, f := range fieldsOf([]api.Type{x}, x.Name, kind) {
		l = append(l, own(f))
	}
	for _, p := range ahead {
		for _, f := range fieldsOf(types, p.Type, kind) {
			l = append(l, other(p.Var, f))
		}
	}
	return one(d, l...)
}

// fieldsOf a type that are of a kind.
func fieldsOf(types []api.Type, name string, kind int) []string {
	var l []string
	for _, x := range types {
		for _, f := range x.Fields {
			if x.Name == name && f.Kind == kind {
				l = append(l, f.Name)
			}
		}
	}
	return l
}

// TestDrawnBooks: P7.1, P7.5: drawn books that may be are shown as another hand writes them, and parsed as they were.
func TestDrawnBooks(t *testing.T) {
	seen := map[api.Errno]int{}
	for seed := range 4000 {
		d := drawer{rand.New(rand.NewSource(int64(seed)))}
		b := d.book()
		if Check(b) != api.OK || judged(b) != api.OK {
			t.Fatalf("seed %d: %v, judged %v: %+v", seed, Check(b), judged(b), b)
		}
		s := written(b)
		l, e := Show(b)
		seen[e]++
		// No text of a drawn book has blanks in it, so that its tokens can be counted.
		if n := len(strings.Fields(s)); n > api.MaxTokens {
			if len(l) > 0 || e != api.ErrFull {
				t.Fatalf("seed %d: %d tokens are shown as %d, %v", seed, n, len(l), e)
			}
			continue
		}
		roundTrip(t, b)
		if wanted, _, f := lex.Cut(s); f == api.OK && !slices.Equal(l, wanted) || f != api.OK && f != api.ErrSize {
			t.Fatalf("seed %d: Show(%+v) = %v, want %v (%v)", seed, b, l, wanted, f)
		}
	}
	if seen[api.OK] < 1000 || seen[api.ErrFull] < 5 {
		t.Errorf("too few: %v", seen)
	}
}

// pick a number, a text or a list of a value, going down into it.
func (d drawer) pick(v reflect.Value) reflect.Value {
	switch v.Kind() {
	case reflect.Struct:
		return d.pick(v.Field(d.Intn(v.NumField())))
	case reflect.Slice:
		if v.Len() > 0 && d.Intn(4) > 0 {
			return d.pick(v.Index(d.Intn(v.Len())))
		}
	}
	return v
}

// spoil something of a book; it may become what stands elsewhere in it.
func (d drawer) spoil(b *api.Book) {
	whole := reflect.ValueOf(b).Elem()
	v := d.pick(whole)
	for range d.Intn(5) {
		if x := d.pick(whole); x.Type() == v.Type() {
			v.Set(copied(x, 0))
			return
		}
	}
	switch v.Kind() {
	case reflect.Int:
		v.SetInt(int64(one(d, -2, -1, 0, 1, 2, 3, 4, 5, 6, 7, 8, 13, 14, api.MaxLive, api.MaxLive+1, api.MaxGap, api.MaxGap+1, api.MaxInt+1, -api.MaxInt-1, math.MinInt, math.MaxInt)))
	case reflect.String:
		v.SetString(one(d, "", "a", "b", "n", "s", "x", "y", "u", "p", "zz", "when", "equals", "Z", "abcdefghijk", "0123456789abcdefghijk"))
	case reflect.Slice:
		d.spoilList(v)
	}
}

func (d drawer) spoilList(v reflect.Value) {
	n := v.Len()
	if n == 0 {
		v.Set(reflect.MakeSlice(v.Type(), d.Intn(3), 2))
		return
	}
	i, k := d.Intn(n), d.Intn(n)
	switch d.Intn(5) {
	case 0:
		v.Set(v.Slice(0, i))
	case 1:
		v.Set(reflect.AppendSlice(copied(v.Slice(0, i), 0), v.Slice(i+1, n)))
	case 2:
		for range 1 + d.Intn(6) {
			v.Set(reflect.Append(v, copied(v.Index(i), 0)))
		}
	case 3:
		v.Set(reflect.Append(v, reflect.Zero(v.Type().Elem())))
	default:
		x, y := copied(v.Index(i), 0), copied(v.Index(k), 0)
		v.Index(i).Set(y)
		v.Index(k).Set(x)
	}
}

// nest the condition of some pattern.
func (d drawer) nest(b *api.Book) {
	if l := places(*b); len(l) > 0 {
		at := &one(d, l...).in(b).Where
		for range 1 + d.Intn(api.MaxDepth) {
			*at = group(api.Not, *at)
		}
	}
}

// emit something else by some rule, of whatever type.
func (d drawer) emit(b *api.Book) {
	if len(b.Rules) == 0 || len(b.Types) == 0 {
		return
	}
	x := one(d, b.Types...)
	m := api.Emit{Type: x.Name}
	for _, f := range x.Fields {
		m.Values = append(m.Values, d.side(f.Kind, api.Type{}, nil, nil))
	}
	b.Rules[d.Intn(len(b.Rules))].Emit = m
}

// turn the bounds of some option.
func (d drawer) turn(b *api.Book) {
	for i := range b.Rules {
		for _, k := range b.Rules[i].Links {
			o := &k.Options[d.Intn(len(k.Options))]
			if d.Intn(2) == 0 {
				o.Low, o.High = o.High, o.Low
			}
		}
	}
}

// TestSpoiltBooks: drawn books, spoilt here and there, held against the chapter's words asked one after another.
func TestSpoiltBooks(t *testing.T) {
	seen := map[api.Errno]int{}
	for seed := range 12000 {
		d := drawer{rand.New(rand.NewSource(int64(seed)))}
		b := d.book()
		switch d.Intn(8) {
		case 0:
			d.nest(&b)
		case 1:
			d.emit(&b)
		case 2:
			d.turn(&b)
		default:
			for range 1 + d.Intn(3) {
				d.spoil(&b)
			}
		}
		e := judged(b)
		seen[e]++
		want(t, fmt.Sprint("seed ", seed), b, e)
		if t.Failed() {
			t.FailNow()
		}
	}
	for _, e := range []api.Errno{api.OK, api.ErrSize, api.ErrRange, api.ErrKind, api.ErrForm, api.ErrNone, api.ErrTwice, api.ErrOrder, api.ErrType, api.ErrDeep, api.ErrEndless} {
		if seen[e] < 40 {
			t.Errorf("%v was drawn %d times", e, seen[e])
		}
	}
}

// FuzzCheck: of any text that is parsed, Check answers as the chapter's words do, and what is shown is parsed as it was.
func FuzzCheck(f *testing.F) {
	f.Add(wholeBook)
	f.Add("type a { n : int } rule r { when x : a [ not ( n = 1 or n = 2 and n = 3 ) ] ; emit a ( x . n ) ; }")
	f.Fuzz(func(t *testing.T, s string) {
		l, _, _ := lex.Cut(s)
		b, _, e := parse.Parse(l)
		if e != api.OK {
			return
		}
		want(t, s, b, judged(b))
		if _, e := Show(b); e == api.OK {
			roundTrip(t, b)
		}
	})
}
