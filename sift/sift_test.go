package sift

import (
	"fmt"
	"math"
	"slices"
	"strings"
	"testing"

	"dotterel/api"
	"dotterel/check"
	"dotterel/lex"
	"dotterel/parse"
	"dotterel/plan"
	"dotterel/value"
)

// types of the books that are written out in the tests. Fields of one name stand at different places, so that each event is looked at by its own type.
const types = "type a { n : int , s : text } type b { s : text , m : int , n : int } type c { } "

// read a book that is written out in a test.
func read(t *testing.T, s string) api.Book {
	t.Helper()
	l, place, e := lex.Cut(s)
	if e != api.OK {
		t.Fatalf("Cut(%q): %d, %v", s, place, e)
	}
	b, place, e := parse.Parse(l)
	if e != api.OK {
		t.Fatalf("Parse(%q): %d, %v", s, place, e)
	}
	return b
}

// one rule with these parts, in a book of its own.
func one(t *testing.T, parts string) api.Book {
	t.Helper()
	return read(t, types+"rule one { "+parts+" }")
}

func num(n int) api.Value { return api.Value{Kind: api.Int, Int: n} }

func text(s string) api.Value { return api.Value{Kind: api.Text, Text: s} }

// event of the type at a place.
func event(kind int, l ...api.Value) api.Event {
	return api.Event{Number: 1, Type: kind, Span: api.Span{Start: 2, End: 5}, Values: l}
}

// Events of the types that are written out.
func evA(n int, s string) api.Event { return event(0, num(n), text(s)) }

func evB(s string, m, n int) api.Event { return event(1, text(s), num(m), num(n)) }

func evC() api.Event { return event(2) }

// events: a list, told shortly.
func events(l ...api.Event) []api.Event { return l }

// place of a pattern.
type place struct{ rule, part, at int }

// want: with OK that answer, with an error false.
func want(t *testing.T, what string, b api.Book, p place, x api.Event, known []api.Event, wantOK bool, wantE api.Errno) {
	t.Helper()
	if ok, e := Takes(b, p.rule, p.part, p.at, x, known); ok != wantOK || e != wantE {
		t.Errorf("%s, at %v: %v with %v: %v, %v; want %v, %v", what, p, x, known, ok, e, wantOK, wantE)
	}
}

// TestParts: P10.1: patterns of each of the three parts, with and without a condition, with and without windows; events of the pattern's type and of others.
func TestParts(t *testing.T) {
	b := one(t, `when w : a ; when x : b [ n = 3 ] over time 0 ; when y : a [ s = "in" ] over last 1 ;
		not u : c ; not v : a [ n < 2 ] ; many 2 p : b [ m <= 4 ] within 0 ; many 9 of n q : a within 7 ;`)
	all := events(evA(1, "in"), evB("s", 2, 3), evA(7, "out"))
	for _, c := range []struct {
		part, at int
		x        api.Event
		want     bool
	}{
		{0, 0, evA(1, ""), true},
		{0, 0, evA(-9, "out"), true},
		{0, 0, evB("", 0, 0), false},
		{0, 0, evC(), false},
		{0, 1, evB("", 0, 3), true},
		{0, 1, evB("", 3, 0), false},
		{0, 1, evA(3, ""), false}, // the condition would hold of it, too
		{0, 1, evC(), false},
		{0, 2, evA(0, "in"), true},
		{0, 2, evA(0, "out"), false},
		{0, 2, evB("in", 0, 0), false},
		{0, 2, evC(), false},
		{1, 0, evC(), true},
		{1, 0, evA(1, ""), false},
		{1, 0, evB("", 0, 0), false},
		{1, 1, evA(1, ""), true},
		{1, 1, evA(2, ""), false},
		{1, 1, evB("", 1, 1), false},
		{1, 1, evC(), false},
		{2, 0, evB("", 4, 9), true},
		{2, 0, evB("", 5, 0), false},
		{2, 0, evA(4, ""), false},
		{2, 0, evC(), false},
		{2, 1, evA(0, ""), true}, // neither the count nor the sum is asked
		{2, 1, evB("", 0, 0), false},
		{2, 1, evC(), false},
	} {
		known := all
		if c.part == 0 {
			known = all[:c.at]
		}
		want(t, "parts", b, place{0, c.part, c.at}, c.x, known, c.want, api.OK)
	}
}

// TestTypesByNames: P10.1: the type of an event is told by a place, that of a pattern by a name: wherever it stands.
func TestTypesByNames(t *testing.T) {
	names := []string{"a", "b", "c", "d", "e", "f"}
	for at, name := range names {
		b := api.Book{Rules: []api.Rule{{
			Name:   "r",
			Whens:  []api.Pattern{{Var: "x", Type: name}},
			Nots:   []api.Pattern{{Var: "u", Type: name}},
			Manies: []api.Many{{Count: 1, Pattern: api.Pattern{Var: "p", Type: name, Window: api.Time}}},
		}}}
		for _, n := range names {
			b.Types = append(b.Types, api.Type{Name: n})
		}
		for k := range names {
			want(t, name, b, place{0, 0, 0}, event(k), nil, k == at, api.OK)
			for part := 1; part <= 2; part++ {
				want(t, name, b, place{0, part, 0}, event(k), events(event(at)), k == at, api.OK)
				wantE := api.ErrType
				if k == at {
					wantE = api.OK
				}
				want(t, name, b, place{0, part, 0}, event(at), events(event(k)), k == at, wantE)
			}
		}
	}
}

// TestNotAsked: P10.1: windows are not asked, nor spans, nor numbers of events, nor links, nor whether the rule can ever be.
func TestNotAsked(t *testing.T) {
	b := one(t, "when x : a over time 0 ; when y : a over last 1 ; not u : a ; many 1 p : a within 0 ; where x meets ( 1 , 2 ) y ; where u equals x ;")
	if _, e := plan.Rule(b, 0); e != api.ErrNever {
		t.Fatalf("the rule can be: %v", e)
	}
	spans := []api.Span{{}, {Start: 0, End: api.MaxTime}, {Start: api.MaxTime, End: api.MaxTime}, {Start: 3, End: 8}}
	for _, first := range spans {
		for _, second := range spans {
			x, k := evA(1, "s"), evA(2, "t")
			x.Span, k.Span = first, second
			for _, n := range []int{1, 2, api.MaxCount} {
				x.Number = n // it may be the known one's, ahead of it and behind it
				k.Number = 2
				want(t, "not asked", b, place{0, 0, 1}, x, events(k), true, api.OK)
				want(t, "not asked", b, place{0, 1, 0}, x, events(k, k), true, api.OK)
				want(t, "not asked", b, place{0, 2, 0}, x, events(k, x), true, api.OK)
			}
		}
	}
	endless := one(t, "when x : a ; not u : b ;")
	if _, e := plan.Rule(endless, 0); e != api.ErrEndless {
		t.Fatalf("the rule has an end: %v", e)
	}
	want(t, "endless", endless, place{0, 1, 0}, evB("", 0, 0), events(evA(0, "")), true, api.OK)
}

// sides of a comparison, all Kinds of them.
var sides = []int{api.Constant, api.Own, api.Other}

// sided: a comparison of two values, each on a side of a Kind, asked of a pattern whose own event and whose known one have just these.
func sided(kind, leftKind, rightKind int, left, right api.Value) (api.Book, api.Event, []api.Event) {
	fields := []api.Field{{Name: "l", Kind: left.Kind}, {Name: "r", Kind: right.Kind}}
	side := func(kind int, v api.Value, field string) api.Operand {
		switch kind {
		case api.Constant:
			return api.Operand{Kind: kind, Value: v}
		case api.Own:
			return api.Operand{Kind: kind, Field: field}
		}
		return api.Operand{Kind: kind, Var: "x", Field: field}
	}
	// What is not looked at is another value, which would change the answer.
	lie := func(v api.Value) api.Value {
		if v.Kind == api.Int {
			return num(-7)
		}
		return text("~")
	}
	own, known := event(1, lie(left), lie(right)), event(0, lie(right), lie(left))
	values := func(kind int) []api.Value {
		if kind == api.Own {
			return own.Values
		}
		return known.Values
	}
	if leftKind != api.Constant {
		values(leftKind)[map[int]int{api.Own: 0, api.Other: 1}[leftKind]] = left
	}
	if rightKind != api.Constant {
		values(rightKind)[map[int]int{api.Own: 1, api.Other: 0}[rightKind]] = right
	}
	where := api.Condition{Kind: kind, Left: side(leftKind, left, "l"), Right: side(rightKind, right, "r")}
	return api.Book{
		Types: []api.Type{{Name: "a", Fields: []api.Field{fields[1], fields[0]}}, {Name: "b", Fields: fields}},
		Rules: []api.Rule{{Name: "one", Whens: []api.Pattern{{Var: "x", Type: "a"}, {Var: "y", Type: "b", Where: where}}}},
	}, own, events(known)
}

// wantSides: each comparison of two values, of which the first one is less (-1), the same (0) or greater (1), on sides of all Kinds, either way round.
func wantSides(t *testing.T, left, right api.Value, n int) {
	t.Helper()
	for kind, holds := range map[int]bool{api.Equal: n == 0, api.Differ: n != 0, api.Less: n < 0, api.Most: n <= 0} {
		for _, l := range sides {
			for _, r := range sides {
				b, own, known := sided(kind, l, r, left, right)
				want(t, fmt.Sprint("comparison ", kind, " of sides ", l, " and ", r), b, place{0, 0, 1}, own, known, holds, api.OK)
			}
		}
	}
	if n < 0 {
		wantSides(t, right, left, 1)
	}
}

// TestNumbers: P10.2: Equal, Differ, Less and Most of numbers: alike, apart by least, and as far apart as may be.
func TestNumbers(t *testing.T) {
	const top = api.MaxInt
	l := []int{-top, 1 - top, -1 << 32, -100, -2, -1, 0, 1, 2, 9, 10, 1 << 31, 1 << 32, 1<<32 + 1, top - 1, top} // as they grow
	for i, x := range l {
		wantSides(t, num(x), num(x), 0)
		for _, y := range l[i+1:] {
			wantSides(t, num(x), num(y), -1)
		}
	}
}

// TestTexts: P10.2: Equal, Differ, Less and Most of texts, byte by byte: alike, apart by one byte, one the beginning of the other, as long as may be.
func TestTexts(t *testing.T) {
	long := strings.Repeat("m", api.MaxText-1)
	l := []string{"", "\x00", "\x00\x00", " ", "\"", "-1", "10", "9", "A", "Z", "a", "a\x00", "a ", "aa", "ab", "b", long, long + "a", long + "m", long + "n", "z", "\x7f", "\x80", "é", "\xff", "\xff\xff"} // as they grow
	for i, x := range l {
		wantSides(t, text(x), text(x), 0)
		for _, y := range l[i+1:] {
			wantSides(t, text(x), text(y), -1)
		}
	}
}

// TestMarks: P10.2: the comparisons as the grammar writes them.
func TestMarks(t *testing.T) {
	for mark, holds := range map[string]string{"=": "2", "/=": "13", "<": "1", "<=": "12", ">": "3", ">=": "23"} {
		b := one(t, "when x : a [ n "+mark+" 2 ] ; when y : a [ x . n "+mark+" n ] ; when z : a [ n "+mark+" y . n ] ;")
		for n := 1; n <= 3; n++ {
			ok := strings.Contains(holds, fmt.Sprint(n))
			want(t, "n "+mark+" 2", b, place{0, 0, 0}, evA(n, ""), nil, ok, api.OK)
			want(t, "x . n "+mark+" n", b, place{0, 0, 1}, evA(2, ""), events(evA(n, "")), ok, api.OK)
			want(t, "n "+mark+" y . n", b, place{0, 0, 2}, evA(n, ""), events(evA(9, ""), evA(2, "")), ok, api.OK)
		}
	}
}

// TestOwnAndOther: P10.2: an Own and an Other of one field are not the same; two Owns and two Others are looked at side by side.
func TestOwnAndOther(t *testing.T) {
	for _, c := range []struct {
		where string
		x     api.Event
		known []api.Event
		want  bool
	}{
		{"n = m", evB("", 4, 4), events(evA(5, ""), evA(6, "")), true},
		{"n = m", evB("", 5, 4), events(evA(5, ""), evA(5, "")), false},
		{"m < n", evB("", 3, 4), events(evA(5, ""), evA(6, "")), true},
		{"n < m", evB("", 3, 4), events(evA(3, ""), evA(4, "")), false},
		{"n = n", evB("", 3, 4), events(evA(1, ""), evA(2, "")), true},
		{"n < n", evB("", 3, 4), events(evA(1, ""), evA(2, "")), false},
		{"n = x . n", evB("", 0, 4), events(evA(4, ""), evA(5, "")), true},
		{"n = x . n", evB("", 4, 0), events(evA(4, ""), evA(0, "")), false},
		{"n = y . n", evB("", 0, 4), events(evA(5, ""), evA(4, "")), true},
		{"n = y . n", evB("", 4, 5), events(evA(5, ""), evA(4, "")), false},
		{"x . n = x . n", evB("", 4, 5), events(evA(6, ""), evA(7, "")), true},
		{"x . n = y . n", evB("", 0, 0), events(evA(6, ""), evA(6, "")), true},
		{"x . n = y . n", evB("", 6, 6), events(evA(6, ""), evA(7, "")), false},
		{"x . n < y . n", evB("", 0, 0), events(evA(6, ""), evA(7, "")), true},
		{"y . n < x . n", evB("", 0, 0), events(evA(6, ""), evA(7, "")), false},
		{"s = x . s", evB("q", 0, 0), events(evA(0, "q"), evA(0, "r")), true},
		{"s = x . s", evB("r", 0, 0), events(evA(0, "q"), evA(0, "r")), false},
		{"x . s < y . s", evB("", 0, 0), events(evA(0, "q"), evA(0, "r")), true},
		{`y . s <= "q"`, evB("a", 0, 0), events(evA(0, "a"), evA(0, "r")), false},
		{`x . s <= "q"`, evB("z", 0, 0), events(evA(0, "q"), evA(0, "z")), true},
		{"1 = 1", evB("", 0, 0), events(evA(0, ""), evA(0, "")), true},
		{"- 1 = 1", evB("", 0, 0), events(evA(0, ""), evA(0, "")), false},
		{`"" < "a"`, evB("", 0, 0), events(evA(0, ""), evA(0, "")), true},
		{`"a" < "a"`, evB("", 0, 0), events(evA(0, ""), evA(0, "")), false},
	} {
		b := one(t, "when x : a ; when y : a ; when z : b [ "+c.where+" ] ;")
		want(t, c.where, b, place{0, 0, 2}, c.x, c.known, c.want, api.OK)
		// The same of a not and a many that all three whens are known to; the third one changes nothing.
		b = one(t, "when x : a ; when y : a ; when z : c ; not u : b [ "+c.where+" ] ; many 1 p : b [ "+c.where+" ] within 2 ;")
		known := append(slices.Clone(c.known), evC())
		want(t, c.where, b, place{0, 1, 0}, c.x, known, c.want, api.OK)
		want(t, c.where, b, place{0, 2, 0}, c.x, known, c.want, api.OK)
	}
}

// TestOthers: P10.2: an Other of the first, the second and the third when, whatever the order of their names.
func TestOthers(t *testing.T) {
	b := one(t, `when z : a ; when y : b [ n = z . n ] ; when x : a [ n = z . n or s = y . s ] ;
		not u : b [ m = z . n ] ; not v : a [ n = y . m ] ; many 1 p : a [ s = x . s ] within 3 ; many 1 q : b [ x . n < n and y . n < n and z . n < n ] within 3 ;`)
	z, y, x := evA(1, "z"), evB("y", 2, 3), evA(4, "x")
	known := events(z, y, x)
	for _, c := range []struct {
		part, at int
		x        api.Event
		want     bool
	}{
		{0, 1, evB("", 0, 1), true},
		{0, 1, evB("", 1, 0), false},
		{0, 2, evA(1, ""), true},
		{0, 2, evA(0, "y"), true},
		{0, 2, evA(3, "z"), false},
		{1, 0, evB("", 1, 0), true},
		{1, 0, evB("", 2, 1), false},
		{1, 0, evB("", 4, 1), false},
		{1, 1, evA(2, ""), true},
		{1, 1, evA(1, ""), false},
		{1, 1, evA(3, ""), false},
		{1, 1, evA(4, ""), false},
		{2, 0, evA(0, "x"), true},
		{2, 0, evA(0, "y"), false},
		{2, 0, evA(0, "z"), false},
		{2, 1, evB("", 0, 5), true},
		{2, 1, evB("", 5, 4), false},
		{2, 1, evB("", 5, 2), false},
	} {
		l := known
		if c.part == 0 {
			l = known[:c.at]
		}
		want(t, "others", b, place{0, c.part, c.at}, c.x, l, c.want, api.OK)
	}
	// Where all whens are of one type, only their order tells their events apart.
	for at, v := range []string{"x", "y", "z"} {
		b := one(t, "when x : a ; when y : a ; when z : a ; not u : a [ n = "+v+" . n ] ; many 1 p : a [ n = "+v+" . n ] within 3 ;")
		known := events(evA(1, ""), evA(2, ""), evA(3, ""))
		for n := range 5 {
			want(t, v, b, place{0, 1, 0}, evA(n, ""), known, n == at+1, api.OK)
			want(t, v, b, place{0, 2, 0}, evA(n, ""), known, n == at+1, api.OK)
		}
	}
}

// TestFields: P10.2: the first and the last field of a type with as many as may be, Own and Other.
func TestFields(t *testing.T) {
	names := []string{"n", "s", "m", "t"}
	src := "type a { n : int , s : text , m : int , t : text } type b { t : text , m : int , s : text , n : int } "
	for at, f := range names {
		b := read(t, src+"rule one { when x : a ; when y : b [ "+f+" = x . "+f+" ] ; }")
		known := event(0, num(1), text("p"), num(2), text("q"))
		same := event(1, text("o"), num(8), text("o"), num(8))
		want(t, f, b, place{0, 0, 1}, same, events(known), false, api.OK)
		same.Values[len(names)-1-at] = known.Values[at]
		want(t, f, b, place{0, 0, 1}, same, events(known), true, api.OK)
	}
}

// Conditions of a field n, written as structs.
func is(n int) api.Condition {
	return api.Condition{Kind: api.Equal, Left: api.Operand{Kind: api.Own, Field: "n"}, Right: api.Operand{Kind: api.Constant, Value: num(n)}}
}

func group(kind int, subs ...api.Condition) api.Condition {
	return api.Condition{Kind: kind, Subs: subs}
}

// flag: a comparison that holds, or one that does not.
func flag(holds bool) api.Condition {
	if holds {
		return is(1)
	}
	return is(0)
}

// wantWhere: a condition of each part of a rule, asked of an event whose n is 1.
func wantWhere(t *testing.T, what string, c api.Condition, holds bool) {
	t.Helper()
	b := one(t, "when x : a ; not u : a ; many 1 p : a within 3 ;")
	r := &b.Rules[0]
	r.Whens[0].Where, r.Nots[0].Where, r.Manies[0].Pattern.Where = c, c, c
	want(t, what, b, place{0, 0, 0}, evA(1, ""), nil, holds, api.OK)
	want(t, what, b, place{0, 1, 0}, evA(1, ""), events(evA(0, "")), holds, api.OK)
	want(t, what, b, place{0, 2, 0}, evA(1, ""), events(evA(2, "")), holds, api.OK)
}

// TestGroups: P10.2: And, Or and Not of all truths, of two to as many Subs as may be.
func TestGroups(t *testing.T) {
	wantWhere(t, "not true", group(api.Not, flag(true)), false)
	wantWhere(t, "not false", group(api.Not, flag(false)), true)
	for _, n := range []int{2, 3, 4} {
		for bits := range 1 << n {
			var subs []api.Condition
			for i := range n {
				subs = append(subs, flag(bits>>i&1 == 1))
			}
			wantWhere(t, fmt.Sprintf("and of %0*b", n, bits), group(api.And, subs...), bits == 1<<n-1)
			wantWhere(t, fmt.Sprintf("or of %0*b", n, bits), group(api.Or, subs...), bits != 0)
		}
	}
	for at := range api.MaxTests { // just one of the most that may be is unlike the others
		subs := slices.Repeat([]api.Condition{flag(true)}, api.MaxTests)
		wantWhere(t, "and of all", group(api.And, subs...), true)
		subs[at] = flag(false)
		wantWhere(t, fmt.Sprint("and without ", at), group(api.And, subs...), false)
		subs = slices.Repeat([]api.Condition{flag(false)}, api.MaxTests)
		wantWhere(t, "or of none", group(api.Or, subs...), false)
		subs[at] = flag(true)
		wantWhere(t, fmt.Sprint("or with ", at), group(api.Or, subs...), true)
	}
}

// TestNested: P10.2: And, Or and Not, each within each, of all truths.
func TestNested(t *testing.T) {
	for bits := range 8 {
		p, q, r := bits&1 != 0, bits&2 != 0, bits&4 != 0
		x, y, z := flag(p), flag(q), flag(r)
		for what, c := range map[string]struct {
			where api.Condition
			holds bool
		}{
			"and in and": {group(api.And, x, group(api.And, y, z)), p && (q && r)},
			"or in and":  {group(api.And, x, group(api.Or, y, z)), p && (q || r)},
			"not in and": {group(api.And, x, group(api.Not, y), z), p && !q && r},
			"and in or":  {group(api.Or, group(api.And, x, y), z), p && q || r},
			"or in or":   {group(api.Or, group(api.Or, x, y), z), p || q || r},
			"not in or":  {group(api.Or, x, group(api.Not, y), z), p || !q || r},
			"and in not": {group(api.Not, group(api.And, x, y, z)), !(p && q && r)},
			"or in not":  {group(api.Not, group(api.Or, x, y, z)), !(p || q || r)},
			"not in not": {group(api.Not, group(api.Not, x)), p},
			"all":        {group(api.Or, group(api.Not, group(api.And, x, group(api.Not, y))), group(api.And, group(api.Or, y, z), x)), !(p && !q) || (q || r) && p},
		} {
			wantWhere(t, fmt.Sprintf("%s of %v, %v, %v", what, p, q, r), c.where, c.holds)
		}
	}
}

// TestPrecedence: P10.2, with P6.3: what a text says of And, Or and Not is what is asked.
func TestPrecedence(t *testing.T) {
	for n := range 8 {
		p, q, r := n < 4, n%2 == 0, n == 1 || n == 6
		for where, holds := range map[string]bool{
			"n < 4 and ( n = 0 or n = 2 or n = 4 or n = 6 ) or n = 1 or n = 6":             p && q || r,
			"n < 4 and ( n = 0 or n = 2 or n = 4 or n = 6 or n = 1 or n = 6 )":             p && (q || r),
			"not n < 4 and ( n = 1 or n = 6 )":                                             !p && r,
			"not ( n < 4 and ( n = 1 or n = 6 ) )":                                         !(p && r),
			"n >= 4 or not ( not n = 1 and not n = 6 )":                                    !p || r,
			"not not n < 4 and not ( n = 0 or n = 2 or n = 4 or n = 6 )":                   p && !q,
			"( n < 4 or n = 1 or n = 6 ) and not ( n < 4 and ( n = 1 or n = 6 ) ) or n=99": (p || r) && !(p && r),
		} {
			want(t, where, one(t, "when x : a [ "+where+" ] ;"), place{}, evA(n, ""), nil, holds, api.OK)
		}
	}
}

// TestDepth: P10.2: conditions as deep as they may be; one deeper is refused.
func TestDepth(t *testing.T) {
	for _, truth := range []bool{true, false} {
		nots, ands, ors, mixed := flag(truth), flag(truth), flag(truth), flag(truth)
		holds := truth
		for depth := 2; depth <= api.MaxDepth; depth++ {
			nots = group(api.Not, nots)
			ands = group(api.And, flag(true), ands)
			ors = group(api.Or, ors, flag(false))
			switch depth % 3 {
			case 0:
				mixed = group(api.Not, mixed)
				holds = !holds
			case 1:
				mixed = group(api.And, mixed, flag(true))
			case 2:
				mixed = group(api.Or, flag(false), mixed)
			}
			wantWhere(t, fmt.Sprint("nots, deep ", depth), nots, truth == (depth%2 == 1))
			wantWhere(t, fmt.Sprint("ands, deep ", depth), ands, truth)
			wantWhere(t, fmt.Sprint("ors, deep ", depth), ors, truth)
			wantWhere(t, fmt.Sprint("mixed, deep ", depth), mixed, holds)
		}
		for _, c := range []api.Condition{nots, ands, ors, mixed} {
			b := one(t, "when x : a ;")
			b.Rules[0].Whens[0].Where = group(api.Not, c)
			want(t, "one deeper", b, place{}, evA(1, ""), nil, false, api.ErrDeep)
		}
	}
}

// TestAlways: P10.2: a condition that is all empty holds, with Subs of nil or not; one that is empty within another one is none.
func TestAlways(t *testing.T) {
	wantWhere(t, "empty", api.Condition{}, true)
	wantWhere(t, "empty, with no Subs", api.Condition{Subs: []api.Condition{}}, true)
	for _, c := range []api.Condition{
		group(api.Not, api.Condition{}),
		group(api.And, is(1), api.Condition{}),
		group(api.Or, api.Condition{}, is(1)),
		{Kind: api.Always, Subs: []api.Condition{is(1)}},
		{Kind: api.Always, Left: api.Operand{Kind: api.Own, Field: "n"}},
	} {
		b := one(t, "when x : a ;")
		b.Rules[0].Whens[0].Where = c
		want(t, "not all empty", b, place{}, evA(1, ""), nil, false, api.ErrKind)
	}
}

// full: a book of as many rules as may be, each with as many patterns as may be in each part; each pattern takes a number of its own.
func full(t *testing.T) (b api.Book, takes map[place]int) {
	takes = map[place]int{}
	n := 0
	next := func(p place) string {
		n++
		takes[p] = n
		return fmt.Sprint(" : a [ n = ", n, " ] ")
	}
	b = read(t, types)
	for r := range api.MaxRules {
		s := fmt.Sprint("rule r", r, " { ")
		for i, v := range []string{"x", "y", "z"} {
			s += "when " + v + next(place{r, 0, i}) + "; "
		}
		for i, v := range []string{"u", "v"} {
			s += "not " + v + next(place{r, 1, i}) + "; "
		}
		for i, v := range []string{"p", "q"} {
			s += "many 1 " + v + next(place{r, 2, i}) + "within 3 ; "
		}
		b.Rules = append(b.Rules, read(t, s+"}").Rules...)
	}
	return b, takes
}

// knownFor a pattern, where all whens are of the type a.
func knownFor(p place, whens int) []api.Event {
	if p.part == 0 {
		whens = p.at
	}
	return slices.Repeat([]api.Event{evA(0, "")}, whens)
}

// TestPlaces: P10.1: the first and the last place of each part, of the first and the last rule, and all between: no other pattern is asked.
func TestPlaces(t *testing.T) {
	b, takes := full(t)
	if e := check.Check(b); e != api.OK || len(takes) != api.MaxRules*(api.MaxWhens+api.MaxNots+api.MaxManies) {
		t.Fatal(e, len(takes))
	}
	for p, n := range takes {
		for k := range len(takes) + 2 {
			want(t, "places", b, p, evA(k, ""), knownFor(p, 3), k == n, api.OK)
		}
	}
}

// TestNoPlaces: P10.1: a rule, a part and a place that there is not, each below and above.
func TestNoPlaces(t *testing.T) {
	b, _ := full(t)
	below := []int{-1, -2, -5, math.MinInt, math.MinInt + 1}
	above := func(n int) []int { return []int{n, n + 1, n + 7, 1 << 32, 1<<32 + 1, math.MaxInt} }
	x, known := evA(1, ""), knownFor(place{part: 1}, 3)
	for _, rule := range slices.Concat(below, above(api.MaxRules)) {
		want(t, "no rule", b, place{rule, 1, 0}, x, known, false, api.ErrRange)
	}
	for _, part := range slices.Concat(below, above(3)) {
		want(t, "no part", b, place{0, part, 0}, x, known, false, api.ErrRange)
		want(t, "no part", b, place{4, part, 1}, x, nil, false, api.ErrRange)
	}
	for part, n := range []int{api.MaxWhens, api.MaxNots, api.MaxManies} {
		for _, at := range slices.Concat(below, above(n)) {
			want(t, "no place", b, place{0, part, at}, x, known, false, api.ErrRange)
			want(t, "no place", b, place{4, part, at}, x, known, false, api.ErrRange)
		}
	}
	// Each part has its own places, and each rule its own.
	b = one(t, "when x : a ; when y : a ; not u : a ;")
	b.Rules = append(b.Rules, read(t, "rule two { when x : a ; many 1 p : a within 3 ; many 1 q : a within 3 ; }").Rules...)
	for rule, sizes := range [][]int{{2, 1, 0}, {1, 0, 2}} {
		for part, n := range sizes {
			for at := -1; at < 4; at++ {
				p := place{rule, part, at}
				if at >= 0 && at < n {
					want(t, "a place", b, p, x, knownFor(p, sizes[0]), true, api.OK)
				} else {
					want(t, "no place", b, p, x, knownFor(place{part: 1}, sizes[0]), false, api.ErrRange)
				}
			}
		}
	}
	want(t, "no rules", api.Book{}, place{}, x, nil, false, api.ErrRange)
	want(t, "no rules", read(t, types), place{}, x, nil, false, api.ErrRange)
}

// TestKnownCount: P10.1: one known event too few and one too many: for a when those ahead of it alone, for a not and a many those of all whens.
func TestKnownCount(t *testing.T) {
	b, takes := full(t)
	for whens := 1; whens <= api.MaxWhens; whens++ {
		for r := range b.Rules {
			b.Rules[r].Whens = b.Rules[r].Whens[:whens:whens]
		}
		for p, n := range takes {
			if p.part == 0 && p.at >= whens {
				continue
			}
			right := knownFor(p, whens)
			for k := range 8 {
				known := slices.Repeat([]api.Event{evA(0, "")}, k)
				if k == len(right) {
					want(t, "as many", b, p, evA(n, ""), known, true, api.OK)
				} else {
					want(t, "not as many", b, p, evA(n, ""), known, false, api.ErrForm)
				}
			}
			want(t, "many more", b, p, evA(n, ""), slices.Repeat([]api.Event{evA(0, "")}, 5000), false, api.ErrForm)
		}
		b, takes = full(t)
	}
}

// TestKnownTypes: P10.1: a known event that is not of its when's type, the first and a later one, whatever the pattern says of it.
func TestKnownTypes(t *testing.T) {
	b := one(t, "when x : a ; when y : b ; when z : c ; not u : a ; not v : a [ n = x . n ] ; many 1 p : c within 3 ;")
	right := events(evA(1, ""), evB("", 2, 3), evC())
	for _, p := range []place{{0, 0, 0}, {0, 0, 1}, {0, 0, 2}, {0, 1, 0}, {0, 1, 1}, {0, 2, 0}} {
		n := 3
		if p.part == 0 {
			n = p.at
		}
		for at := range n {
			for _, x := range right {
				known := slices.Clone(right[:n])
				known[at] = x
				wantE := api.ErrType
				if x.Type == right[at].Type {
					wantE = api.OK
				}
				for _, own := range right { // whether or not the pattern would take it
					ok, e := Takes(b, p.rule, p.part, p.at, own, known)
					if e != wantE || e != api.OK && ok {
						t.Errorf("at %v: known %v: %v, %v; want %v", p, known, ok, e, wantE)
					}
				}
			}
		}
	}
	// All in another order.
	want(t, "turned", b, place{0, 1, 0}, evA(1, ""), events(evC(), evB("", 2, 3), evA(1, "")), false, api.ErrType)
	// A type of the same fields is another one.
	twins := read(t, "type a { n : int } type b { n : int } rule one { when x : a ; when y : b [ n = x . n ] ; }")
	want(t, "twins", twins, place{0, 0, 1}, event(1, num(3)), events(event(1, num(3))), false, api.ErrType)
	want(t, "twins", twins, place{0, 0, 1}, event(0, num(3)), events(event(0, num(3))), false, api.OK)
	want(t, "twins", twins, place{0, 0, 1}, event(1, num(3)), events(event(0, num(3))), true, api.OK)
}

// spoilt events of the type a: what CheckEvent refuses them with.
func spoilt() []struct {
	x api.Event
	e api.Errno
} {
	with := func(change func(x *api.Event)) api.Event {
		x := evA(1, "s")
		change(&x)
		return x
	}
	return []struct {
		x api.Event
		e api.Errno
	}{
		{with(func(x *api.Event) { x.Number = 0 }), api.ErrRange},
		{with(func(x *api.Event) { x.Number = -1 }), api.ErrRange},
		{with(func(x *api.Event) { x.Number = api.MaxCount + 1 }), api.ErrRange},
		{with(func(x *api.Event) { x.Type = -1 }), api.ErrNone},
		{with(func(x *api.Event) { x.Type = 3 }), api.ErrNone},
		{with(func(x *api.Event) { x.Type = math.MaxInt }), api.ErrNone},
		{with(func(x *api.Event) { x.Span.Start = -1 }), api.ErrRange},
		{with(func(x *api.Event) { x.Span.End = api.MaxTime + 1 }), api.ErrRange},
		{with(func(x *api.Event) { x.Span = api.Span{Start: 3, End: 2} }), api.ErrOrder},
		{with(func(x *api.Event) { x.Values = nil }), api.ErrType},
		{with(func(x *api.Event) { x.Values = x.Values[:1] }), api.ErrType},
		{with(func(x *api.Event) { x.Values = append(x.Values, num(1)) }), api.ErrType},
		{with(func(x *api.Event) { slices.Reverse(x.Values) }), api.ErrType},
		{with(func(x *api.Event) { x.Values[0] = num(api.MaxInt + 1) }), api.ErrRange},
		{with(func(x *api.Event) { x.Values[1] = text(strings.Repeat("s", api.MaxText+1)) }), api.ErrSize},
		{with(func(x *api.Event) { x.Values[1].Int = 1 }), api.ErrForm},
		{with(func(x *api.Event) { x.Values[1].Kind = 3 }), api.ErrKind},
		{api.Event{}, api.ErrRange},
	}
}

// TestEvents: P10.1: an event that CheckEvent refuses, and a known one, the first and a later one, and one too many.
func TestEvents(t *testing.T) {
	b := one(t, "when x : a ; when y : a ; when z : a ; not u : a ; many 1 p : a within 3 ; not v : c ;")
	fine := evA(1, "s")
	for _, c := range spoilt() {
		if e := value.CheckEvent(b.Types, c.x); e != c.e {
			t.Fatalf("CheckEvent of %v: %v, not %v", c.x, e, c.e)
		}
		for _, p := range []place{{0, 0, 0}, {0, 0, 1}, {0, 0, 2}, {0, 1, 0}, {0, 1, 1}, {0, 2, 0}} {
			known := knownFor(p, 3)
			want(t, "a spoilt event", b, p, c.x, known, false, c.e)
			want(t, "a spoilt event, one known too many", b, p, c.x, append(known, fine), false, c.e)
			for at := range known {
				l := slices.Clone(known)
				l[at] = c.x
				want(t, "a spoilt one that is known", b, p, fine, l, false, c.e)
				want(t, "the same, of an event that the pattern would not take", b, p, evC(), l, false, c.e)
			}
			want(t, "a spoilt one beyond those that there should be", b, p, fine, append(known, c.x), false, c.e)
		}
	}
	// Edges of what events may be.
	for _, x := range []api.Event{
		{Number: api.MaxCount, Span: api.Span{Start: api.MaxTime, End: api.MaxTime}, Values: []api.Value{num(api.MaxInt), text(strings.Repeat("\xff", api.MaxText))}},
		{Number: 1, Values: []api.Value{num(-api.MaxInt), text("")}},
	} {
		want(t, "an edge", b, place{0, 1, 0}, x, events(x, fine, x), true, api.OK)
	}
}

// TestBooks: P10.1: a book that Check refuses, with each error, whatever else is wrong.
func TestBooks(t *testing.T) {
	seen := map[api.Errno]bool{}
	for what, b := range map[string]api.Book{
		"types":       {Types: make([]api.Type, api.MaxTypes+1)},
		"rules":       {Rules: make([]api.Rule, api.MaxRules+1)},
		"no name":     {Types: make([]api.Type, 1)},
		"kept":        {Types: []api.Type{{Name: "when"}}},
		"kind":        {Types: []api.Type{{Name: "a", Fields: []api.Field{{Name: "n", Kind: 3}}}}},
		"twice":       read(t, "type a { } type a { }"),
		"no type":     read(t, "type a { } rule r { when x : b ; }"),
		"a later one": read(t, "type a { } rule r { when x : a ; } rule s { when x : b ; }"),
		"time":        read(t, "type a { } rule r { when x : a over time 2000000000 ; }"),
		"last":        read(t, "type a { } rule r { when x : a over last 0 ; }"),
		"side":        read(t, "type a { n : int } rule r { when x : a [ n = \"\" ] ; }"),
		"no other":    read(t, "type a { n : int } rule r { when x : a [ n = y . n ] ; when y : a ; }"),
		"itself":      read(t, "type a { n : int } rule r { when x : a [ n = x . n ] ; }"),
		"of a not":    read(t, "type a { n : int } rule r { when x : a ; not u : a ; not v : a [ n = u . n ] ; }"),
		"endless":     read(t, "type a { } rule r { when x : a ; emit a ( ) ; }"),
		"order":       read(t, "type a { } rule r { when x : a ; when y : a ; where x before ( 3 , 2 ) y ; }"),
	} {
		e := check.Check(b)
		if e == api.OK {
			t.Errorf("%s: not refused", what)
		}
		seen[e] = true
		for _, p := range []place{{}, {-1, 0, 0}, {9, 0, 0}, {0, 3, 0}, {0, 0, -1}} {
			want(t, what, b, p, event(0), nil, false, e)
			want(t, what, b, p, event(0, num(1)), nil, false, e)
			want(t, what, b, p, api.Event{}, events(api.Event{}), false, e)
		}
	}
	for _, e := range []api.Errno{api.ErrSize, api.ErrRange, api.ErrKind, api.ErrForm, api.ErrNone, api.ErrTwice, api.ErrType, api.ErrOrder, api.ErrEndless} {
		if !seen[e] {
			t.Errorf("no book is refused with %v", e)
		}
	}
}

// TestFirstError: P10.1: where several errors apply, the one that is named first is told: all is wrong, and mended one after another.
func TestFirstError(t *testing.T) {
	bad := one(t, "when x : a ; when y : b [ n = 1 ] ; when z : c ;")
	bad.Types[0].Name = "A"
	good := one(t, "when x : a ; when y : b [ n = 1 ] ; when z : c ;")
	odd := func(n int) api.Event { // each one is told another error
		x := evA(1, "")
		switch n {
		case 0:
			x.Type = 99
		case 1:
			x.Span.Start = 9
		case 2:
			x.Values = append(x.Values, num(1))
		}
		return x
	}
	x, known := odd(0), events(odd(1), odd(2), odd(1))
	want(t, "all is wrong", bad, place{1, 3, 3}, x, known, false, api.ErrForm)
	want(t, "a rule, a part, a place", good, place{1, 3, 3}, x, known, false, api.ErrRange)
	want(t, "a part, a place", good, place{0, 3, 3}, x, known, false, api.ErrRange)
	want(t, "a place", good, place{0, 0, 3}, x, known, false, api.ErrRange)
	p := place{0, 0, 2}
	want(t, "an event", good, p, x, known, false, api.ErrNone)
	x = evB("", 0, 0)
	want(t, "the first known one", good, p, x, known, false, api.ErrOrder)
	known[0] = evB("", 0, 0)
	want(t, "the second one", good, p, x, known, false, api.ErrType)
	known[1] = evA(1, "")
	want(t, "one too many, that is refused", good, p, x, known, false, api.ErrOrder)
	known[2] = evA(1, "")
	want(t, "one too many", good, p, x, known, false, api.ErrForm)
	want(t, "one too few", good, p, x, known[:1], false, api.ErrForm)
	want(t, "types of known ones", good, p, x, known[:2], false, api.ErrType)
	known[0] = evA(1, "")
	want(t, "the type of the second one", good, p, x, known[:2], false, api.ErrType)
	known[1] = evB("", 0, 0) // that its when would not take it is not asked
	want(t, "the event's own type", good, p, x, known[:2], false, api.OK)
	want(t, "all is right", good, p, evC(), known[:2], true, api.OK)
}

// TestKnownConditions: P10.1: that the whens would take their known events is not asked.
func TestKnownConditions(t *testing.T) {
	b := one(t, "when x : a [ n = 1 ] ; when y : a [ n = x . n ] ; when z : a [ n < y . n ] ; not u : a [ n = z . n ] ;")
	want(t, "a when", b, place{0, 0, 1}, evA(5, ""), events(evA(5, "")), true, api.OK)
	want(t, "a later one", b, place{0, 0, 2}, evA(5, ""), events(evA(7, ""), evA(6, "")), true, api.OK)
	want(t, "a not", b, place{0, 1, 0}, evA(9, ""), events(evA(7, ""), evA(6, ""), evA(9, "")), true, api.OK)
}
