package check

import (
	"fmt"
	"math"
	"reflect"
	"slices"
	"strings"
	"testing"

	"dotterel/api"
	"dotterel/lex"
	"dotterel/parse"
)

// keptWords, as chapter 6 names them.
var keptWords = strings.Fields(`and any emit int last many not of or over rule text time type when where within
	before after meets metby overlaps overlapped starts startedby during contains finishes finishedby equals`)

// wholeBook has three rules, each with every part of a rule, at its greatest but for links.
const wholeBook = `type a { n : int , s : text , m : int } type b { n : int , s : text } type c { } type d { k : int , t : text , j : int } type e { }
rule one {
	when x : a [ n = 1 and s /= "t" and not ( m < 3 or m <= - 4 ) ] over time 3 ; when y : b [ n = x . n or s = x . s ] over last 2 ; when z : c ;
	not u : a [ n < y . n ] ; not v : b ; many 2 p : a [ m = x . m ] within 4 ; many 0 of n q : b [ s = y . s ] within 0 ;
	where x before y ; where y meets or after ( 1 , 2 ) or equals ( 3 , any ) z ; where u during x ; where z contains v ; emit d ( x . n , "s" , - 7 ) ;
}
rule two {
	when x : b ; when y : b [ not x . n < n ] ; when z : a [ n = x . n and m = y . n ] over last 120 ;
	not u : c ; not v : a [ s = z . s ] ; many 120 p : c within 1073741824 ; many 1 of m q : a within 1 ;
	where u before x ; where v metby ( 0 , 0 ) y ; where z overlaps x ; emit d ( 0 , z . s , y . n ) ;
}
rule three {
	when z : c ; when y : a ; when x : a over time 1073741824 ;
	not v : d [ t = y . s ] ; not u : d ; many 1 q : d within 2 ; many 7 of k p : d within 3 ;
	where y starts or finishes x ; where x startedby v ; emit e ( ) ;
}`

// read a book that is written out in a test.
func read(t *testing.T, s string) api.Book {
	t.Helper()
	l, place, e := lex.Cut(s)
	if e != api.OK {
		t.Fatalf("Cut(%q): %d, %v", s, place, e)
	}
	b, place, e := parse.Parse(l)
	if e != api.OK {
		t.Fatalf("Parse(%q): %d, %v", s, place, e)
	}
	return b
}

// want: what Check must answer, and Show, if it is an error.
func want(t *testing.T, what string, b api.Book, e api.Errno) {
	t.Helper()
	if got := Check(b); got != e {
		t.Errorf("%s: Check: %v, want %v", what, got, e)
	}
	if l, got := Show(b); e != api.OK && (got != e || len(l) > 0) {
		t.Errorf("%s: Show: %d tokens, %v, want none, %v", what, len(l), got, e)
	} else if e == api.OK && got != e && got != api.ErrFull {
		t.Errorf("%s: Show: %v", what, got)
	}
}

// spoilt: the whole book with one thing changed, and what must be answered.
func spoilt(t *testing.T, what string, e api.Errno, spoil func(b *api.Book)) {
	t.Helper()
	b := read(t, wholeBook)
	spoil(&b)
	want(t, what, b, e)
}

// place of a pattern in a book.
type place struct {
	rule, part, at int
	ahead          []place
}

func (p place) String() string {
	return fmt.Sprintf("rule %d, part %d, pattern %d", p.rule, p.part, p.at)
}

func (p place) in(b *api.Book) *api.Pattern {
	r := &b.Rules[p.rule]
	switch p.part {
	case whens:
		return &r.Whens[p.at]
	case nots:
		return &r.Nots[p.at]
	}
	return &r.Manies[p.at].Pattern
}

// places of all patterns of a book.
func places(b api.Book) []place {
	var all []place
	for i, r := range b.Rules {
		var l []place
		for part, n := range map[int]int{whens: len(r.Whens), nots: len(r.Nots), manies: len(r.Manies)} {
			for at := range n {
				l = append(l, place{rule: i, part: part, at: at})
			}
		}
		slices.SortFunc(l, func(p, q place) int { return 10*(p.part-q.part) + p.at - q.at })
		for k := range l {
			l[k].ahead = l[:k]
		}
		all = append(all, l...)
	}
	return all
}

// atPatterns: each pattern of the whole book, one at a time, with something changed.
func atPatterns(t *testing.T, what string, e api.Errno, spoil func(p place, b *api.Book)) {
	t.Helper()
	for _, p := range places(read(t, wholeBook)) {
		spoilt(t, fmt.Sprintf("%v: %s", p, what), e, func(b *api.Book) { spoil(p, b) })
	}
}

func number(n int) api.Operand {
	return api.Operand{Kind: api.Constant, Value: api.Value{Kind: api.Int, Int: n}}
}

func text(s string) api.Operand {
	return api.Operand{Kind: api.Constant, Value: api.Value{Kind: api.Text, Text: s}}
}

func own(s string) api.Operand { return api.Operand{Kind: api.Own, Field: s} }

func other(v, f string) api.Operand { return api.Operand{Kind: api.Other, Var: v, Field: f} }

func test(kind int, l, r api.Operand) api.Condition {
	return api.Condition{Kind: kind, Left: l, Right: r}
}

func group(kind int, l ...api.Condition) api.Condition { return api.Condition{Kind: kind, Subs: l} }

// good conditions, for patterns of any type.
func good(n int) api.Condition { return test(api.Equal, number(n), number(n)) }

// grow a list to a length by copies of its last element, each changed by its place.
func grow[T any](l []T, n int, change func(x *T, i int)) []T {
	l = slices.Clone(l)
	for i := len(l); i < n; i++ {
		l = append(l, l[len(l)-1])
		change(&l[i], i)
	}
	return l
}

// badNames, and what they are refused as, kept ones too.
func badNames() map[string]api.Errno {
	m := map[string]api.Errno{
		"": api.ErrSize, "abcdefghijk": api.ErrSize, strings.Repeat("a", 1000): api.ErrSize, "?????????????": api.ErrSize,
		"A": api.ErrForm, "1a": api.ErrForm, "a b": api.ErrForm, "a_": api.ErrForm, "é": api.ErrForm, "\x00": api.ErrForm, "a\"": api.ErrForm, "type ": api.ErrForm,
	}
	for _, w := range keptWords {
		m[w] = api.ErrForm
	}
	return m
}

// TestMayBe: P7.1: books that may be.
func TestMayBe(t *testing.T) {
	for _, s := range []string{
		"",
		wholeBook,
		"type a { }",
		"type a { } type b { a : int } type c { b : text , a : int , type1 : int , c : int }",
		"type a { } rule a { when a : a ; }",
		"type n { n : int } rule n { when n : n [ n = n and n = 1 ] ; when m : n [ n . n = n ] ; }",
		"type a { n : int } rule r { when x : a ; } rule s { when x : a ; } rule t { when x : a ; }",
		"type a { n : int } type b { n : int } rule one { when x : a ; emit b ( x . n ) ; } rule two { when y : b [ n = 3 ] ; }",
	} {
		want(t, s, read(t, s), api.OK)
	}
	want(t, "lists without elements", api.Book{Types: []api.Type{}, Rules: []api.Rule{}}, api.OK)
	want(t, "lists without elements within", api.Book{
		Types: []api.Type{{Name: "a", Fields: []api.Field{}}},
		Rules: []api.Rule{{Name: "r", Nots: []api.Pattern{}, Manies: []api.Many{}, Links: []api.Link{}, Emit: api.Emit{Values: []api.Operand{}},
			Whens: []api.Pattern{{Var: "x", Type: "a", Where: api.Condition{Subs: []api.Condition{}}}}}},
	}, api.OK)
}

// TestSizesOfBooks: P7.1: just MaxTypes types and MaxRules rules, and one more of each, ahead of all else.
func TestSizesOfBooks(t *testing.T) {
	b := read(t, wholeBook)
	types := func(n int) []api.Type {
		return grow(b.Types, n, func(x *api.Type, i int) { x.Name = fmt.Sprint("t", i) })
	}
	rules := func(n int) []api.Rule {
		return grow(b.Rules, n, func(x *api.Rule, i int) { x.Name = fmt.Sprint("r", i) })
	}
	for _, c := range []struct {
		types, rules int
		e            api.Errno
	}{
		{api.MaxTypes, api.MaxRules, api.OK},
		{api.MaxTypes + 1, api.MaxRules, api.ErrSize},
		{api.MaxTypes, api.MaxRules + 1, api.ErrSize},
		{api.MaxTypes + 1, api.MaxRules + 1, api.ErrSize},
		{1000, 4, api.ErrSize},
		{4, 1000, api.ErrSize},
	} {
		want(t, fmt.Sprint(c), api.Book{Types: types(c.types), Rules: rules(c.rules)}, c.e)
		bad := api.Book{Types: types(c.types), Rules: rules(c.rules)}
		bad.Types[0].Name = "?"
		if c.e == api.OK {
			c.e = api.ErrForm
		}
		want(t, fmt.Sprint("a wrong name, ", c), bad, c.e)
	}
	want(t, "no types", api.Book{Rules: b.Rules}, api.ErrNone)
	want(t, "types alone", api.Book{Types: types(api.MaxTypes)}, api.OK)
	want(t, "zero types", api.Book{Types: make([]api.Type, api.MaxTypes)}, api.ErrSize)
	want(t, "zero rules", api.Book{Rules: make([]api.Rule, api.MaxRules)}, api.ErrSize)
	want(t, "rules that are too many go ahead", api.Book{Types: []api.Type{{Name: "?"}}, Rules: make([]api.Rule, api.MaxRules+1)}, api.ErrSize)
}

// TestTypes: P7.1: each wrong type, at each place, and a name that is taken.
func TestTypes(t *testing.T) {
	for i := range read(t, wholeBook).Types {
		at := func(what string, e api.Errno, spoil func(x *api.Type)) {
			t.Helper()
			spoilt(t, fmt.Sprintf("type %d: %s", i, what), e, func(b *api.Book) { spoil(&b.Types[i]) })
		}
		for s, e := range badNames() {
			at(s, e, func(x *api.Type) { x.Name = s })
		}
		for k := range 3 {
			fill := func(x *api.Type) {
				x.Fields = []api.Field{{Name: "f0", Kind: api.Int}, {Name: "f1", Kind: api.Text}, {Name: "f2", Kind: api.Int}}
			}
			for s, e := range badNames() {
				at("a field "+s, e, func(x *api.Type) { fill(x); x.Fields[k].Name = s })
			}
			for _, kind := range []int{0, 3, -1, math.MaxInt} {
				at("a field's Kind", api.ErrKind, func(x *api.Type) { fill(x); x.Fields[k].Kind = kind })
			}
			for n := range k {
				at("a field twice", api.ErrTwice, func(x *api.Type) { fill(x); x.Fields[k].Name = x.Fields[n].Name })
			}
		}
		at("too many fields", api.ErrSize, func(x *api.Type) {
			x.Fields = grow([]api.Field{{Name: "f", Kind: api.Int}}, api.MaxFields+1, func(f *api.Field, i int) { f.Name = fmt.Sprint("f", i) })
		})
		at("a kept name, and a field that may not be", api.ErrKind, func(x *api.Type) { x.Name, x.Fields = "when", []api.Field{{Name: "n"}} })
		for k := range i {
			spoilt(t, "a type's name twice", api.ErrTwice, func(b *api.Book) { b.Types[i].Name = b.Types[k].Name })
			spoilt(t, "a type's name twice, and a kept field", api.ErrForm, func(b *api.Book) {
				b.Types[i] = api.Type{Name: b.Types[k].Name, Fields: []api.Field{{Name: "of", Kind: api.Int}}}
			})
		}
	}
	spoilt(t, "the first wrong type is told", api.ErrTwice, func(b *api.Book) { b.Types[1].Name, b.Types[2].Name = b.Types[0].Name, "" })
	spoilt(t, "types go ahead of rules", api.ErrTwice, func(b *api.Book) { b.Types[3].Name, b.Rules[0].Name = b.Types[0].Name, "" })
}

// TestRules: P7.1, P7.2: names and sizes of rules, at each place.
func TestRules(t *testing.T) {
	for i := range read(t, wholeBook).Rules {
		at := func(what string, e api.Errno, spoil func(r *api.Rule)) {
			t.Helper()
			spoilt(t, fmt.Sprintf("rule %d: %s", i, what), e, func(b *api.Book) { spoil(&b.Rules[i]) })
		}
		for s, e := range badNames() {
			at(s, e, func(r *api.Rule) { r.Name = s })
			at(s+", no whens", e, func(r *api.Rule) { r.Name, r.Whens = s, nil })
		}
		for k := range i {
			spoilt(t, "a rule's name twice", api.ErrTwice, func(b *api.Book) { b.Rules[i].Name = b.Rules[k].Name })
			spoilt(t, "a rule's name twice, and its emit wrong", api.ErrNone, func(b *api.Book) {
				b.Rules[i].Name, b.Rules[i].Emit.Type = b.Rules[k].Name, "zz"
			})
			spoilt(t, "a rule's name twice, and no whens", api.ErrSize, func(b *api.Book) { b.Rules[i].Name, b.Rules[i].Whens = b.Rules[k].Name, nil })
		}
		at("no whens", api.ErrSize, func(r *api.Rule) { r.Whens = nil })
		at("nothing but a name", api.ErrSize, func(r *api.Rule) { *r = api.Rule{Name: r.Name} })
		var extra api.Pattern
		at("too many whens", api.ErrSize, func(r *api.Rule) { r.Whens = append(r.Whens, extra) })
		at("too many nots", api.ErrSize, func(r *api.Rule) { r.Nots = append(r.Nots, extra) })
		at("too many manies", api.ErrSize, func(r *api.Rule) { r.Manies = append(r.Manies, api.Many{}) })
		links := func(n int) func(r *api.Rule) {
			return func(r *api.Rule) { r.Links = grow(r.Links, n, func(*api.Link, int) {}) }
		}
		at("just MaxLinks links", api.OK, links(api.MaxLinks))
		at("too many links", api.ErrSize, links(api.MaxLinks+1))
		at("too many links, and a wrong pattern", api.ErrSize, func(r *api.Rule) { links(api.MaxLinks + 1)(r); r.Whens[0].Var = "?" })
	}
	want(t, "one when alone", read(t, "type a { } rule r { when x : a ; }"), api.OK)
	want(t, "a not alone", read(t, "type a { } rule r { not x : a ; }"), api.ErrSize)
	want(t, "a many alone", read(t, "type a { } rule r { many 1 x : a within 1 ; }"), api.ErrSize)
	want(t, "no types, a name that may not be", read(t, "rule r { when x : a ; }"), api.ErrNone)
	spoilt(t, "the first wrong rule is told", api.ErrTwice, func(b *api.Book) { b.Rules[1].Name, b.Rules[2].Name = b.Rules[0].Name, "" })
	spoilt(t, "a name that is taken goes behind what is in its rule", api.ErrNone, func(b *api.Book) { b.Rules[1].Name, b.Rules[1].Whens[0].Type = b.Rules[0].Name, "zz" })
	spoilt(t, "a name that is taken goes ahead of the next rule", api.ErrTwice, func(b *api.Book) { b.Rules[1].Name, b.Rules[2].Whens[0].Type = b.Rules[0].Name, "zz" })
}

// TestPatterns: P7.2: Var and Type of each pattern.
func TestPatterns(t *testing.T) {
	for s, e := range badNames() {
		atPatterns(t, "Var "+s, e, func(p place, b *api.Book) { p.in(b).Var = s })
		atPatterns(t, "Var "+s+", and no such type", e, func(p place, b *api.Book) { p.in(b).Var, p.in(b).Type = s, "zz" })
	}
	for _, s := range []string{"zz", "", "A", "type", "one"} {
		atPatterns(t, "Type "+s, api.ErrNone, func(p place, b *api.Book) { p.in(b).Type = s })
		atPatterns(t, "Type "+s+", and a wrong window", api.ErrNone, func(p place, b *api.Book) { p.in(b).Type, p.in(b).Window = s, 3 })
	}
	for _, p := range places(read(t, wholeBook)) {
		for _, q := range p.ahead {
			spoilt(t, fmt.Sprintf("%v: the Var of %v", p, q), api.ErrTwice, func(b *api.Book) { p.in(b).Var = q.in(b).Var })
			spoilt(t, fmt.Sprintf("%v: the Var of %v, and no such type", p, q), api.ErrTwice, func(b *api.Book) { p.in(b).Var, p.in(b).Type = q.in(b).Var, "zz" })
			spoilt(t, fmt.Sprintf("%v goes ahead of %v", q, p), api.ErrNone, func(b *api.Book) { q.in(b).Type, p.in(b).Var = "zz", "?" })
		}
	}
}

// TestWindows: P7.2: each window, with each N, of each part.
func TestWindows(t *testing.T) {
	for window := -2; window <= 4; window++ {
		for _, n := range []int{math.MinInt, -1, 0, 1, 2, api.MaxLive - 1, api.MaxLive, api.MaxLive + 1, api.MaxGap - 1, api.MaxGap, api.MaxGap + 1, math.MaxInt} {
			for _, p := range places(read(t, wholeBook)) {
				e := api.OK
				switch {
				case p.part == whens && (window < api.Open || window > api.Last), p.part == nots && window != api.Open, p.part == manies && window != api.Time:
					e = api.ErrForm
				case window == api.Open && n != 0:
					e = api.ErrForm
				case window == api.Time && (n < 0 || n > api.MaxGap), window == api.Last && (n < 1 || n > api.MaxLive):
					e = api.ErrRange
				}
				spoil := func(b *api.Book) { p.in(b).Window, p.in(b).N = window, n }
				spoilt(t, fmt.Sprintf("%v: window %d, N %d", p, window, n), e, spoil)
				if e == api.OK {
					e = api.ErrKind
				}
				spoilt(t, fmt.Sprintf("%v: window %d, N %d, and a wrong condition", p, window, n), e, func(b *api.Book) {
					spoil(b)
					p.in(b).Where.Kind = 8
				})
			}
		}
	}
}

// TestCounts: P7.2: the Count of a many, with and without a Field, ahead of all that its pattern has, and its Field, behind all that.
func TestCounts(t *testing.T) {
	for i := range 3 {
		for k := range 2 {
			at := func(what string, e api.Errno, spoil func(m *api.Many)) {
				t.Helper()
				spoilt(t, fmt.Sprintf("rule %d, many %d: %s", i, k, what), e, func(b *api.Book) {
					m := &b.Rules[i].Manies[k]
					m.Pattern.Type, m.Pattern.Where, m.Field = "a", api.Condition{}, ""
					b.Rules[i].Emit = api.Emit{} // for nothing may come of an a here
					spoil(m)
				})
			}
			for n, e := range map[int]api.Errno{
				math.MinInt: api.ErrRange, -1: api.ErrRange, 0: api.ErrRange, 1: api.OK, 2: api.OK,
				api.MaxLive: api.OK, api.MaxLive + 1: api.ErrRange, api.MaxInt: api.ErrRange, math.MaxInt: api.ErrRange,
			} {
				at(fmt.Sprint("Count ", n), e, func(m *api.Many) { m.Count = n })
				if e == api.OK {
					e = api.ErrSize
				}
				at(fmt.Sprint("Count ", n, " and a wrong Var"), e, func(m *api.Many) { m.Count, m.Pattern.Var = n, "" })
			}
			for n, e := range map[int]api.Errno{
				math.MinInt: api.ErrRange, -1: api.ErrRange, 0: api.OK, 1: api.OK, api.MaxLive: api.OK, api.MaxLive + 1: api.OK,
				api.MaxInt: api.OK, api.MaxInt + 1: api.ErrRange, math.MaxInt: api.ErrRange,
			} {
				at(fmt.Sprint("Count ", n, " of n"), e, func(m *api.Many) { m.Count, m.Field = n, "n" })
			}
			for f, e := range map[string]api.Errno{"n": api.OK, "m": api.OK, "s": api.ErrType, "zz": api.ErrNone, "k": api.ErrNone, "N": api.ErrNone, "type": api.ErrNone, "a": api.ErrNone} {
				at("Field "+f, e, func(m *api.Many) { m.Field = f })
				at("Field "+f+" and a wrong condition", api.ErrDeep, func(m *api.Many) {
					m.Field, m.Pattern.Where = f, good(1)
					for range api.MaxDepth {
						m.Pattern.Where = group(api.Not, m.Pattern.Where)
					}
				})
				at("Field "+f+" and a wrong Count", api.ErrRange, func(m *api.Many) { m.Field, m.Count = f, -1 })
			}
		}
	}
	spoilt(t, "a Count goes behind the patterns ahead", api.ErrNone, func(b *api.Book) { b.Rules[1].Nots[1].Type, b.Rules[1].Manies[0].Count = "zz", 0 })
	spoilt(t, "a Field goes ahead of the next many", api.ErrType, func(b *api.Book) {
		b.Rules[2].Manies[0].Field, b.Rules[2].Manies[1].Count = "t", -1
	})
	spoilt(t, "a Field goes ahead of the links", api.ErrType, func(b *api.Book) { b.Rules[2].Manies[1].Field, b.Rules[2].Links[0].Left = "t", "zz" })
}

// TestEmptyConditions: P7.3: a condition that is all empty may be a pattern's own, and stands nowhere within another one, however deep; one that is not all empty is of no Kind.
func TestEmptyConditions(t *testing.T) {
	var empty api.Condition
	for i, c := range []api.Condition{
		empty,
		{Subs: []api.Condition{}},
	} {
		atPatterns(t, fmt.Sprint("empty ", i), api.OK, func(p place, b *api.Book) { p.in(b).Where = c })
		for k, d := range around(c)[1:] {
			atPatterns(t, fmt.Sprint("empty ", i, " within ", k+1), api.ErrKind, func(p place, b *api.Book) { p.in(b).Where = d })
		}
	}
	for i, c := range []api.Condition{
		group(api.And, empty, empty),
		group(api.Or, empty, good(1)),
		group(api.Or, empty, test(api.Equal, number(1), text("1"))),
		group(api.Not, group(api.Not, empty)),
		group(api.Or, good(1), group(api.And, good(2), empty)),
		group(api.And, make([]api.Condition, 100)...),
		{Subs: []api.Condition{empty}},
		{Left: number(1)},
		{Right: number(1)},
		{Left: number(1), Right: number(1)},
		{Left: api.Operand{Value: api.Value{Int: 1}}},
		{Right: api.Operand{Var: "x"}},
	} {
		wrongCondition(t, fmt.Sprint("not all empty ", i), c, api.ErrKind)
	}
	wrongCondition(t, "a Sub goes ahead of an empty one behind it", group(api.And, test(api.Equal, number(1), text("1")), empty), api.ErrType)
	for kind, c := range map[string]api.Condition{"no such Kind": {Kind: 9}, "an empty one": empty} {
		for range api.MaxDepth - 1 {
			c = group(api.Not, c)
		}
		for range 2 {
			atPatterns(t, kind+" goes ahead of too deep", api.ErrKind, func(p place, b *api.Book) { p.in(b).Where = c })
			c = group(api.Not, c)
		}
		atPatterns(t, kind+" two deeper: what is around it is too deep", api.ErrDeep, func(p place, b *api.Book) { p.in(b).Where = c })
	}
}

// around: a condition as it is, and within others, at the first, at a middle and at the last place.
func around(c api.Condition) []api.Condition {
	return []api.Condition{
		c,
		group(api.Not, c),
		group(api.And, c, good(1), good(2)),
		group(api.Or, good(1), c, good(2)),
		group(api.And, good(1), good(2), c),
		group(api.Or, good(1), group(api.Not, group(api.And, good(2), c)), test(api.Equal, number(1), text("1"))),
	}
}

// wrongCondition: as each pattern's own, and within others.
func wrongCondition(t *testing.T, what string, c api.Condition, e api.Errno) {
	t.Helper()
	b := read(t, wholeBook)
	for _, p := range places(b) {
		at := &p.in(&b).Where
		was := *at
		for i, d := range around(c) {
			*at = d
			want(t, fmt.Sprintf("%v: %s, within %d", p, what, i), b, e)
		}
		*at = was
	}
}

// TestKindsOfConditions: P7.3: each Kind, and none such.
func TestKindsOfConditions(t *testing.T) {
	for _, kind := range []int{math.MinInt, -1, 8, 9, math.MaxInt} {
		wrongCondition(t, fmt.Sprint("Kind ", kind), api.Condition{Kind: kind}, api.ErrKind)
		wrongCondition(t, fmt.Sprint("Kind ", kind, " with all"), api.Condition{Kind: kind, Subs: []api.Condition{{}}, Left: number(1), Right: number(1)}, api.ErrKind)
	}
	for kind := api.Equal; kind <= api.Most; kind++ {
		c := test(kind, number(1), number(2))
		atPatterns(t, fmt.Sprint("Kind ", kind), api.OK, func(p place, b *api.Book) { p.in(b).Where = c })
		c.Subs = []api.Condition{{}}
		wrongCondition(t, fmt.Sprint("Kind ", kind, " with a Sub"), c, api.ErrForm)
		c.Left.Kind = 9
		wrongCondition(t, fmt.Sprint("Kind ", kind, " with a Sub and a wrong side"), c, api.ErrForm)
	}
	for kind := api.And; kind <= api.Not; kind++ {
		for n := range 4 {
			c := api.Condition{Kind: kind}
			for i := range n {
				c.Subs = append(c.Subs, good(i))
			}
			if kind == api.Not && n == 1 || kind != api.Not && n >= 2 {
				atPatterns(t, fmt.Sprint("Kind ", kind, " of ", n), api.OK, func(p place, b *api.Book) { p.in(b).Where = c })
			} else {
				wrongCondition(t, fmt.Sprint("Kind ", kind, " of ", n), c, api.ErrForm)
			}
			for _, side := range []api.Operand{number(1), {Kind: 9}, {Var: "x"}, {Field: "n"}, {Value: api.Value{Text: "t"}}} {
				d, f := c, c
				d.Left, f.Right = side, side
				wrongCondition(t, fmt.Sprint("Kind ", kind, " of ", n, " with Left"), d, api.ErrForm)
				wrongCondition(t, fmt.Sprint("Kind ", kind, " of ", n, " with Right"), f, api.ErrForm)
			}
		}
		wrongCondition(t, "its own form goes ahead of its Subs", api.Condition{Kind: kind, Left: number(1), Subs: []api.Condition{{Kind: 9}, {Kind: 9}}}, api.ErrForm)
	}
}

// TestDeep: P7.3: just MaxDepth deep, and one more.
func TestDeep(t *testing.T) {
	wraps := []func(c api.Condition) api.Condition{
		func(c api.Condition) api.Condition { return group(api.Not, c) },
		func(c api.Condition) api.Condition { return group(api.And, c, good(1)) },
		func(c api.Condition) api.Condition { return group(api.Or, good(1), c) },
	}
	for mask := range 3 * 3 * 3 {
		c := good(2)
		n := mask
		for range api.MaxDepth - 1 {
			c = wraps[n%3](c)
			n = n/3 + n%3*9
		}
		want := func(what string, e api.Errno, c api.Condition) {
			t.Helper()
			atPatterns(t, fmt.Sprint(what, " ", mask), e, func(p place, b *api.Book) { p.in(b).Where = c })
		}
		want("MaxDepth deep", api.OK, c)
		for i, wrap := range wraps {
			want(fmt.Sprint("one deeper ", i), api.ErrDeep, wrap(c))
			want(fmt.Sprint("two deeper ", i), api.ErrDeep, wrap(wrap(c)))
		}
	}
	c := good(1)
	for range 60000 {
		c = group(api.Not, c)
	}
	spoilt(t, "very deep", api.ErrDeep, func(b *api.Book) { b.Rules[0].Whens[0].Where = c })
	endless := group(api.And, good(1), good(1))
	endless.Subs[0].Kind, endless.Subs[0].Left, endless.Subs[0].Right, endless.Subs[0].Subs = api.And, api.Operand{}, api.Operand{}, endless.Subs
	spoilt(t, "within itself", api.ErrDeep, func(b *api.Book) { b.Rules[0].Whens[0].Where = endless })
	bad := test(api.Equal, number(1), text("1"))
	for range api.MaxDepth {
		bad = group(api.Not, bad)
	}
	atPatterns(t, "too deep goes ahead of what it has", api.ErrDeep, func(p place, b *api.Book) { p.in(b).Where = bad })
}

// TestTests: P7.3: just MaxTests comparisons, and one more, as soon as there are too many.
func TestTests(t *testing.T) {
	some := func(kind, n int) api.Condition {
		c := api.Condition{Kind: kind}
		for i := range n {
			c.Subs = append(c.Subs, good(i))
		}
		return c
	}
	bad := test(api.Equal, number(1), text("1"))
	with := func(c api.Condition, more ...api.Condition) api.Condition {
		c.Subs = append(slices.Clone(c.Subs), more...)
		return c
	}
	for i, c := range []struct {
		c api.Condition
		e api.Errno
	}{
		{some(api.And, api.MaxTests), api.OK},
		{some(api.Or, api.MaxTests), api.OK},
		{with(some(api.Or, api.MaxTests), api.Condition{}), api.ErrKind},
		{with(some(api.Or, api.MaxTests+1), api.Condition{}), api.ErrSize},
		{some(api.And, api.MaxTests+1), api.ErrSize},
		{some(api.Or, api.MaxTests+1), api.ErrSize},
		{some(api.Or, 1000), api.ErrSize},
		{group(api.Not, some(api.Or, api.MaxTests)), api.OK},
		{group(api.Not, some(api.Or, api.MaxTests+1)), api.ErrSize},
		{group(api.Or, some(api.And, 6), some(api.And, 6)), api.OK},
		{group(api.Or, some(api.And, 6), some(api.And, 7)), api.ErrSize},
		{group(api.Or, some(api.And, 7), some(api.And, 6)), api.ErrSize},
		{group(api.And, group(api.Not, some(api.And, 5)), good(1), group(api.Or, some(api.And, 3), some(api.And, 3))), api.OK},
		{group(api.And, group(api.Not, some(api.And, 5)), good(1), group(api.Or, some(api.And, 3), some(api.And, 4))), api.ErrSize},
		{with(some(api.And, api.MaxTests), bad), api.ErrType},
		{with(some(api.And, api.MaxTests+1), bad), api.ErrSize},
		{with(some(api.And, api.MaxTests), api.Condition{Kind: 9}), api.ErrKind},
		{group(api.And, bad, some(api.And, api.MaxTests+1)), api.ErrType},
		{group(api.And, some(api.And, api.MaxTests+1), bad), api.ErrSize},
		// One Sub is looked at whole ahead of how many those so far have together.
		{group(api.And, some(api.And, 10), with(some(api.Or, 5), bad)), api.ErrType},
		{group(api.And, some(api.And, 10), some(api.Or, 5), bad), api.ErrSize},
	} {
		atPatterns(t, fmt.Sprint("tests ", i), c.e, func(p place, b *api.Book) { p.in(b).Where = c.c })
	}
}

// badSides, and what they are refused as, in any pattern.
var badSides = []struct {
	o api.Operand
	e api.Errno
}{
	{api.Operand{}, api.ErrKind},
	{api.Operand{Kind: 4}, api.ErrKind},
	{api.Operand{Kind: -1, Var: "zz", Field: "zz"}, api.ErrKind},
	{api.Operand{Kind: math.MaxInt, Value: api.Value{Kind: api.Int}}, api.ErrKind},
	{other("zz", "n"), api.ErrNone},
	{other("", "n"), api.ErrNone},
	{api.Operand{Kind: api.Other, Var: "zz", Field: "n", Value: api.Value{Kind: api.Int}}, api.ErrNone},
	{api.Operand{Kind: api.Constant, Value: api.Value{Kind: api.Int}, Var: "x"}, api.ErrForm},
	{api.Operand{Kind: api.Constant, Value: api.Value{Kind: api.Int}, Field: "n"}, api.ErrForm},
	{api.Operand{Kind: api.Constant, Value: api.Value{Kind: 9}, Field: "n"}, api.ErrForm},
	{api.Operand{Kind: api.Constant}, api.ErrKind},
	{api.Operand{Kind: api.Constant, Value: api.Value{Kind: 3}}, api.ErrKind},
	{api.Operand{Kind: api.Constant, Value: api.Value{Kind: 9, Text: strings.Repeat("t", 99)}}, api.ErrKind},
	{api.Operand{Kind: api.Constant, Value: api.Value{Kind: api.Int, Text: "t"}}, api.ErrForm},
	{api.Operand{Kind: api.Constant, Value: api.Value{Kind: api.Text, Int: 1}}, api.ErrForm},
	{text(strings.Repeat("t", api.MaxText+1)), api.ErrSize},
	{number(api.MaxInt + 1), api.ErrRange},
	{number(-api.MaxInt - 1), api.ErrRange},
	{number(math.MinInt), api.ErrRange},
}

// badOwns: wrong Own sides of a pattern.
var badOwns = []struct {
	o api.Operand
	e api.Errno
}{
	{api.Operand{Kind: api.Own, Field: "zz", Var: "x"}, api.ErrForm},
	{api.Operand{Kind: api.Own, Field: "zz", Value: api.Value{Kind: api.Int}}, api.ErrForm},
	{api.Operand{Kind: api.Own, Field: "zz", Value: api.Value{Int: 1}}, api.ErrForm},
	{api.Operand{Kind: api.Own, Field: "zz", Value: api.Value{Text: "t"}}, api.ErrForm},
	{own("zz"), api.ErrNone},
	{own(""), api.ErrNone},
	{own("type"), api.ErrNone},
}

// TestSides: P7.3: each wrong side, on the left and on the right.
func TestSides(t *testing.T) {
	for i, s := range slices.Concat(badSides, badOwns) {
		for kind := api.Equal; kind <= api.Most; kind++ {
			wrongCondition(t, fmt.Sprint("a left side ", i), test(kind, s.o, number(1)), s.e)
			wrongCondition(t, fmt.Sprint("a right side ", i), test(kind, number(1), s.o), s.e)
		}
		for k, r := range badSides {
			wrongCondition(t, fmt.Sprint("sides ", i, " and ", k), test(api.Less, s.o, r.o), s.e)
		}
		wrongCondition(t, fmt.Sprint("a right side ", i, " of another kind"), test(api.Most, text("t"), s.o), s.e)
	}
	for _, c := range []struct {
		l, r api.Operand
		e    api.Errno
	}{
		{number(api.MaxInt), number(-api.MaxInt), api.OK},
		{text(""), text(strings.Repeat("t", api.MaxText)), api.OK},
		{text("\x00\xff"), text("\""), api.OK},
		{number(1), text("1"), api.ErrType},
		{text(""), number(0), api.ErrType},
	} {
		atPatterns(t, fmt.Sprint(c), c.e, func(p place, b *api.Book) { p.in(b).Where = test(api.Equal, c.l, c.r) })
	}
}

// TestOwnFields: P7.3: a field of the pattern's own type, of the kind of the other side.
func TestOwnFields(t *testing.T) {
	whole := read(t, wholeBook)
	for _, p := range places(whole) {
		for _, f := range []string{"n", "s", "m", "k", "t", "j", "a", "x"} {
			for _, r := range []api.Operand{number(1), text("t")} {
				e := fieldOf(whole, p.in(&whole).Type, f, r.Value.Kind)
				spoilt(t, fmt.Sprint(p, " own ", f), e, func(b *api.Book) { p.in(b).Where = test(api.Less, own(f), r) })
				spoilt(t, fmt.Sprint(p, " own ", f), e, func(b *api.Book) { p.in(b).Where = test(api.Less, r, own(f)) })
			}
		}
	}
}

// fieldOf: what must be told of a field of a type, if it is held against something of a kind.
func fieldOf(b api.Book, kind, field string, against int) api.Errno {
	for _, x := range b.Types {
		for _, f := range x.Fields {
			if x.Name == kind && f.Name == field && f.Kind == against {
				return api.OK
			} else if x.Name == kind && f.Name == field {
				return api.ErrType
			}
		}
	}
	return api.ErrNone
}

// TestOthers: P7.3: an Other of each pattern, in each pattern: only whens that are ahead may be.
func TestOthers(t *testing.T) {
	whole := read(t, wholeBook)
	all := places(whole)
	for _, p := range all {
		for _, q := range all {
			if p.rule != q.rule {
				continue
			}
			v := q.in(&whole).Var
			ahead := q.part == whens && slices.ContainsFunc(p.ahead, func(x place) bool { return x.part == q.part && x.at == q.at })
			for _, f := range []string{"n", "s", "m", "k", "zz", ""} {
				e := api.ErrNone
				if ahead {
					e = fieldOf(whole, q.in(&whole).Type, f, api.Int)
				}
				what := fmt.Sprint(p, " other ", v, " ", f)
				wrong := other(v, f)
				wrong.Value.Int = 1
				spoilt(t, what, e, func(b *api.Book) { p.in(b).Where = test(api.Most, other(v, f), number(1)) })
				spoilt(t, what, e, func(b *api.Book) {
					p.in(b).Where = group(api.And, good(1), group(api.Not, test(api.Most, number(1), other(v, f))))
				})
				if ahead {
					e = api.ErrForm
				}
				spoilt(t, what+" with a value", e, func(b *api.Book) { p.in(b).Where = test(api.Most, wrong, number(1)) })
			}
		}
	}
}

// TestLinks: P7.4: each wrong link, at each place.
func TestLinks(t *testing.T) {
	for i, r := range read(t, wholeBook).Rules {
		for k := range r.Links {
			at := func(what string, e api.Errno, spoil func(l *api.Link)) {
				t.Helper()
				spoilt(t, fmt.Sprintf("rule %d, link %d: %s", i, k, what), e, func(b *api.Book) { spoil(&b.Rules[i].Links[k]) })
			}
			vars := []string{"x", "y", "z", "u", "v", "p", "q", "zz", "", "a", "when"}
			for _, left := range vars {
				for _, right := range vars {
					e := api.OK
					if !strings.Contains("xyzuv", left) || left == "" || !strings.Contains("xyzuv", right) || right == "" {
						e = api.ErrNone
					} else if left == right || strings.Contains("uv", left) && strings.Contains("uv", right) {
						e = api.ErrForm
					}
					at(left+" "+right, e, func(l *api.Link) { l.Left, l.Right = left, right })
					if e == api.OK {
						e = api.ErrSize
					}
					at(left+" "+right+" without options", e, func(l *api.Link) { l.Left, l.Right, l.Options = left, right, nil })
				}
			}
			options := func(n int) []api.Option {
				return slices.Repeat([]api.Option{{Relation: api.Before, Low: 1, High: 2}}, n)
			}
			for n, e := range map[int]api.Errno{0: api.ErrSize, 1: api.OK, api.MaxLinks: api.OK, api.MaxLinks + 1: api.ErrSize, 1000: api.ErrSize} {
				at(fmt.Sprint(n, " options"), e, func(l *api.Link) { l.Options = options(n) })
				if n > 0 && e == api.OK {
					e = api.ErrKind
				}
				at(fmt.Sprint(n, " options, a wrong one"), e, func(l *api.Link) {
					if l.Options = options(n); n > 0 {
						l.Options[n-1].Relation = 0
					}
				})
			}
			for o, e := range map[api.Option]api.Errno{
				{Relation: 0, High: -1}:                                             api.ErrKind,
				{Relation: 14, Low: -1, High: -2}:                                   api.ErrKind,
				{Relation: math.MinInt}:                                             api.ErrKind,
				{Relation: api.Before, Low: -1}:                                     api.ErrRange,
				{Relation: api.Before, Low: api.MaxGap + 1, High: -1}:               api.ErrRange,
				{Relation: api.Before, High: -2}:                                    api.ErrRange,
				{Relation: api.Equals, High: api.MaxGap + 1}:                        api.ErrRange,
				{Relation: api.Equals, Low: 1, High: 0}:                             api.ErrOrder,
				{Relation: api.Equals, Low: api.MaxGap, High: api.MaxGap - 1}:       api.ErrOrder,
				{Relation: api.Equals, Low: api.MaxGap, High: api.MaxGap}:           api.OK,
				{Relation: api.Before, Low: api.MaxGap, High: -1}:                   api.OK,
				{Relation: api.After}:                                               api.OK,
				{Relation: api.During, Low: 0, High: -1}:                            api.OK,
				{Relation: math.MaxInt, Low: math.MinInt, High: math.MaxInt}:        api.ErrKind,
				{Relation: api.FinishedBy, Low: math.MaxInt, High: math.MinInt}:     api.ErrRange,
				{Relation: api.OverlappedBy, Low: 0, High: 0}:                       api.OK,
				{Relation: api.OverlappedBy, Low: api.MaxGap + 1, High: api.MaxGap}: api.ErrRange,
			} {
				for n := range 3 {
					at(fmt.Sprint(o, " at ", n), e, func(l *api.Link) { l.Options = options(3); l.Options[n] = o })
				}
				at(fmt.Sprint(o, " and a link ahead"), api.ErrNone, func(l *api.Link) { l.Left, l.Options = "zz", []api.Option{o} })
			}
			spoilt(t, "a link goes ahead of the emit", api.ErrNone, func(b *api.Book) {
				b.Rules[i].Links[k].Right, b.Rules[i].Emit = "p", api.Emit{Values: []api.Operand{{}}}
			})
			spoilt(t, "patterns go ahead of links", api.ErrRange, func(b *api.Book) {
				b.Rules[i].Links[k].Right, b.Rules[i].Manies[1].Count = "p", -1
			})
		}
	}
	spoilt(t, "the first wrong option is told", api.ErrOrder, func(b *api.Book) {
		b.Rules[0].Links[1].Options = []api.Option{{Relation: 1, Low: 2, High: 1}, {}, {Relation: 1, Low: -1}}
	})
	spoilt(t, "the first wrong link is told", api.ErrForm, func(b *api.Book) {
		b.Rules[0].Links[1].Left, b.Rules[0].Links[2].Left = "z", "zz"
	})
}

// TestEmits: P7.6: each wrong emit, of a rule at each place.
func TestEmits(t *testing.T) {
	for i := range 3 {
		at := func(what string, e api.Errno, m api.Emit) {
			t.Helper()
			spoilt(t, fmt.Sprintf("rule %d: %s", i, what), e, func(b *api.Book) {
				b.Types = append(b.Types[:4], api.Type{Name: "e", Fields: []api.Field{{Name: "k", Kind: api.Int}, {Name: "t", Kind: api.Text}, {Name: "j", Kind: api.Int}}}, api.Type{Name: "f"})
				r := &b.Rules[i]
				r.Whens[slices.IndexFunc(r.Whens, func(p api.Pattern) bool { return p.Var == "x" })].Type = "a"
				for k := range b.Rules {
					b.Rules[k].Emit = api.Emit{}
				}
				r.Emit = m
			})
		}
		values := func(l ...api.Operand) api.Emit { return api.Emit{Type: "e", Values: l} }
		at("none", api.OK, api.Emit{})
		at("none, an empty list", api.OK, api.Emit{Values: []api.Operand{}})
		at("values alone", api.ErrForm, api.Emit{Values: []api.Operand{number(1)}})
		at("wrong values alone", api.ErrForm, api.Emit{Values: []api.Operand{{Kind: 9}}})
		at("without values", api.OK, api.Emit{Type: "f"})
		at("an empty list of values", api.OK, api.Emit{Type: "f", Values: []api.Operand{}})
		for _, s := range []string{"zz", "E", "type", "x", " "} {
			at("no type "+s, api.ErrNone, api.Emit{Type: s})
			at("no type with values "+s, api.ErrNone, api.Emit{Type: s, Values: []api.Operand{{Kind: 9}}})
		}
		at("a value too many", api.ErrType, api.Emit{Type: "f", Values: []api.Operand{number(1)}})
		at("no values", api.ErrType, values())
		at("too few values", api.ErrType, values(number(1), text("t")))
		at("too many values", api.ErrType, values(number(1), text("t"), number(1), number(1)))
		at("too many values, all wrong", api.ErrType, values(own("k"), own("k"), own("k"), own("k")))
		at("constants", api.OK, values(number(-1), text(""), number(api.MaxInt)))
		at("others", api.OK, values(other("x", "n"), other("x", "s"), other("x", "m")))
		for k := range 3 {
			l := []api.Operand{number(1), text("t"), number(2)}
			with := func(o api.Operand) api.Emit {
				l := slices.Clone(l)
				l[k] = o
				return values(l...)
			}
			for n, s := range badSides {
				at(fmt.Sprint("value ", k, " wrong side ", n), s.e, with(s.o))
			}
			for _, f := range []string{"k", "t", "n", "zz", ""} {
				at("an Own "+f, api.ErrForm, with(own(f)))
				at("an Own with all "+f, api.ErrForm, with(api.Operand{Kind: api.Own, Field: f, Var: "x", Value: api.Value{Kind: 9}}))
			}
			for _, v := range []string{"u", "v", "p", "q", "e", "zz"} {
				at("an Other of "+v, api.ErrNone, with(other(v, "n")))
			}
			at("an Other without such a field", api.ErrNone, with(other("x", "k")))
			at("an Other with a value", api.ErrForm, with(api.Operand{Kind: api.Other, Var: "x", Field: "zz", Value: api.Value{Int: 1}}))
			wrong := []api.Operand{text("t"), number(1), text("t")}[k]
			at("a constant of another kind", api.ErrType, with(wrong))
			at("a field of another kind", api.ErrType, with(other("x", []string{"s", "m", "s"}[k])))
		}
		at("the first wrong value is told", api.ErrType, values(text("t"), own("k"), api.Operand{}))
		at("the first wrong value is told", api.ErrForm, values(number(1), own("k"), api.Operand{}))
	}
	spoilt(t, "an emit goes ahead of the next rule", api.ErrType, func(b *api.Book) { b.Rules[0].Emit.Values[2], b.Rules[1].Name = text("t"), "" })
}

// TestEndless: P7.6: what is endless by one rule, by two and by more, by a when, a not and a many; and what is not.
func TestEndless(t *testing.T) {
	const types = "type a { } type b { } type c { } type d { } type e { } type f { } "
	// way: a rule by whose part events of one type make one of another type, by a pattern that is the last one of its part.
	way := func(part int, from, to string) string {
		switch part {
		case whens:
			return "{ when x : f ; when y : " + from + " ; emit " + to + " ( ) ; } "
		case nots:
			return "{ when x : f ; not u : f ; not y : " + from + " ; emit " + to + " ( ) ; } "
		}
		return "{ when x : f ; many 1 u : f within 1 ; many 1 y : " + from + " within 1 ; emit " + to + " ( ) ; } "
	}
	ways := func(part int, l ...string) string {
		s := types
		for i, w := range l {
			s += fmt.Sprint("rule r", i, " ", way(part+(i*part)%2, w[:1], w[1:]))
		}
		return s
	}
	for part := whens; part <= nots; part++ {
		for _, l := range [][]string{
			{"aa"}, {"ee"}, {"ab", "ba"}, {"ba", "ab"}, {"ab", "bc", "ca"}, {"ca", "ab", "bc"}, {"bc", "ab", "ca"}, {"ae", "ec", "cd", "da"},
			{"ab", "bc", "cd", "de", "ea"}, {"ea", "de", "cd", "bc", "ab"}, {"cd", "ab", "ea", "bc", "de"}, {"ab", "bb"}, {"ab", "bc", "cb"}, {"ab", "cd", "dc"}, {"af"},
		} {
			s := ways(part, l...)
			want(t, s, read(t, s), api.ErrEndless)
			// Without any one of the rules that make the ring there is none.
			if len(l) > 1 && l[0][0] == l[len(l)-1][1] {
				s := ways(part, l[:len(l)-1]...)
				want(t, s, read(t, s), api.OK)
			}
		}
		for _, l := range [][]string{
			{}, {"ab"}, {"ab", "bc", "cd", "de"}, {"de", "cd", "bc", "ab"}, {"ab", "ac", "bd", "cd"}, {"ab", "ab", "ab"}, {"ae", "be", "ce", "de"}, {"ab", "bc", "ac", "de", "ce"},
		} {
			s := ways(part, l...)
			want(t, s, read(t, s), api.OK)
		}
	}
	for _, c := range []struct {
		s string
		e api.Errno
	}{
		{"rule r { when x : a ; when y : b ; emit a ( ) ; }", api.ErrEndless},
		{"rule r { when x : a ; when y : b ; emit b ( ) ; }", api.ErrEndless},
		{"rule r { when x : a ; not u : b ; emit b ( ) ; }", api.ErrEndless},
		{"rule r { when x : a ; many 1 u : b within 1 ; emit b ( ) ; }", api.ErrEndless},
		{"rule r { when x : a ; many 1 u : b within 1 ; emit c ( ) ; }", api.OK},
		{"rule r { when x : a ; } rule s { when x : a ; emit b ( ) ; } rule t { when x : b ; }", api.OK},
		{"rule r { when x : a ; emit b ( ) ; } rule s { when x : c ; not u : b ; emit d ( ) ; } rule t { when x : e ; many 1 m : d within 1 ; emit a ( ) ; }", api.ErrEndless},
		{"rule r { when x : a ; emit b ( ) ; } rule s { when x : c ; not u : b ; emit d ( ) ; } rule t { when x : e ; many 1 m : d within 1 ; }", api.OK},
		{"rule r { when x : a ; emit a ( ) ; } rule r { when x : a ; }", api.ErrTwice},
		{"rule r { when x : a ; emit a ( ) ; } rule s { when x : zz ; }", api.ErrNone},
		{"rule r { when x : a ; emit a ( ) ; } rule s { when x : a ; emit a ( 1 ) ; }", api.ErrType},
	} {
		want(t, c.s, read(t, types+c.s), c.e)
	}
}

// TestLadder: the errors in their order: a book with all faults, of which the first one that is told is mended, again and again.
func TestLadder(t *testing.T) {
	b := api.Book{
		Types: make([]api.Type, api.MaxTypes+1),
		Rules: make([]api.Rule, api.MaxRules+1),
	}
	steps := 0
	step := func(e api.Errno, mend func()) {
		t.Helper()
		steps++
		want(t, fmt.Sprint("step ", steps), b, e)
		mend()
	}
	step(api.ErrSize, func() { b.Types = b.Types[:3] })
	step(api.ErrSize, func() { b.Rules = b.Rules[:2]; b.Types[0].Fields = make([]api.Field, api.MaxFields+1) })
	x := &b.Types[0]
	step(api.ErrSize, func() { x.Name = "1" })
	step(api.ErrForm, func() { x.Name = "type" })
	step(api.ErrSize, func() { x.Fields = x.Fields[:2] })
	step(api.ErrSize, func() { x.Fields[0].Name = "N" })
	step(api.ErrForm, func() { x.Fields[0].Name = "n" })
	step(api.ErrKind, func() { x.Fields[0].Kind = api.Int })
	step(api.ErrSize, func() { x.Fields[1].Name = "n" })
	step(api.ErrKind, func() { x.Fields[1].Kind = api.Text })
	step(api.ErrTwice, func() { x.Fields[1].Name = "any" })
	step(api.ErrForm, func() { x.Name = "a" })
	step(api.ErrForm, func() { x.Fields[1].Name = "s" })
	step(api.ErrSize, func() { b.Types[1] = api.Type{Name: "a", Fields: []api.Field{{Name: "text", Kind: api.Text}}} })
	step(api.ErrForm, func() { b.Types[1].Fields[0].Name = "s" })
	step(api.ErrTwice, func() { b.Types[1].Name = "b" })
	step(api.ErrSize, func() { b.Types[2].Name = "c" })

	r := &b.Rules[0]
	r.Nots, r.Manies, r.Links = make([]api.Pattern, api.MaxNots+1), make([]api.Many, api.MaxManies+1), make([]api.Link, api.MaxLinks+1)
	r.Emit.Values = []api.Operand{{}, {}}
	step(api.ErrSize, func() { r.Name = "r-" })
	step(api.ErrForm, func() { r.Name = "rule" })
	step(api.ErrForm, func() { r.Name = "r" })
	step(api.ErrSize, func() { r.Whens = make([]api.Pattern, api.MaxWhens+1) })
	step(api.ErrSize, func() { r.Whens = r.Whens[:2] })
	step(api.ErrSize, func() { r.Nots = r.Nots[:1] })
	step(api.ErrSize, func() { r.Manies = r.Manies[:1] })
	step(api.ErrSize, func() { r.Links = r.Links[:2] })

	p := &r.Whens[0]
	p.Window, p.N, p.Where = 3, -1, api.Condition{Kind: 8}
	step(api.ErrSize, func() { p.Var = "X" })
	step(api.ErrForm, func() { p.Var = "when" })
	step(api.ErrForm, func() { p.Var = "x" })
	step(api.ErrNone, func() { p.Type = "a" })
	step(api.ErrForm, func() { p.Window = api.Open })
	step(api.ErrForm, func() { p.Window = api.Time })
	step(api.ErrRange, func() { p.Window = api.Last })
	step(api.ErrRange, func() { p.N = 1 })
	wrong := api.Operand{Kind: 9, Value: api.Value{Kind: 9, Int: api.MaxInt + 1, Text: strings.Repeat("t", api.MaxText+1)}, Var: "x", Field: "zz"}
	step(api.ErrKind, func() { p.Where = api.Condition{Kind: api.And, Left: wrong, Right: wrong} })
	step(api.ErrForm, func() { p.Where.Left = api.Operand{} })
	step(api.ErrForm, func() { p.Where.Right = api.Operand{} })
	step(api.ErrForm, func() { p.Where.Subs = make([]api.Condition, 2) })
	p.Where.Subs[1] = api.Condition{Kind: api.Less, Subs: make([]api.Condition, 1), Left: wrong, Right: wrong}
	c := &p.Where.Subs[1]
	step(api.ErrKind, func() { p.Where.Subs[0] = good(1) })
	step(api.ErrForm, func() { c.Subs = nil })
	for _, o := range []*api.Operand{&c.Left, &c.Right} {
		step(api.ErrKind, func() { o.Kind = api.Other })
		step(api.ErrNone, func() { o.Kind = api.Own })
		step(api.ErrForm, func() { o.Kind = api.Constant })
		step(api.ErrForm, func() { o.Var = "" })
		step(api.ErrForm, func() { o.Field = "" })
		step(api.ErrKind, func() { o.Value.Kind = api.Text })
		step(api.ErrForm, func() { o.Value.Int = 0 })
		step(api.ErrSize, func() { *o = own("zz") })
		step(api.ErrNone, func() { *o = own([]string{"n", "s"}[steps%2]) })
	}
	step(api.ErrType, func() { c.Right = c.Left })

	p = &r.Whens[1]
	p.N = -1
	step(api.ErrSize, func() { p.Var = "x" })
	step(api.ErrTwice, func() { p.Var = "y" })
	step(api.ErrNone, func() { p.Type = "b" })
	step(api.ErrForm, func() { p.Window = api.Time })
	step(api.ErrRange, func() { p.N = 0 })

	p = &r.Nots[0]
	p.Window, p.N = api.Time, 1
	step(api.ErrSize, func() { p.Var = "y" })
	step(api.ErrTwice, func() { p.Var = "u" })
	step(api.ErrNone, func() { p.Type = "b" })
	step(api.ErrForm, func() { p.Window = api.Open })
	step(api.ErrForm, func() { p.N = 0 })

	m := &r.Manies[0]
	m.Pattern.Where = api.Condition{Kind: -1}
	step(api.ErrRange, func() { m.Field, m.Count = "zz", -1 })
	step(api.ErrRange, func() { m.Count = 0 })
	step(api.ErrSize, func() { m.Pattern.Var = "u" })
	step(api.ErrTwice, func() { m.Pattern.Var = "m" })
	step(api.ErrNone, func() { m.Pattern.Type = "b" })
	step(api.ErrForm, func() { m.Pattern.Window, m.Pattern.N = api.Time, api.MaxGap+1 })
	step(api.ErrRange, func() { m.Pattern.N = api.MaxGap })
	step(api.ErrKind, func() { m.Pattern.Where = api.Condition{} })
	step(api.ErrNone, func() { m.Field = "s" })
	step(api.ErrType, func() { m.Field, m.Pattern.Type = "n", "a" })

	k := &r.Links[0]
	step(api.ErrNone, func() { k.Left, k.Right = "u", "m" })
	step(api.ErrNone, func() { k.Right = "u" })
	step(api.ErrForm, func() { k.Right = "x" })
	step(api.ErrSize, func() { k.Options = []api.Option{{Low: 2, High: -2}} })
	step(api.ErrKind, func() { k.Options[0].Relation = 1 })
	step(api.ErrRange, func() { k.Options[0].High = 1 })
	step(api.ErrOrder, func() { k.Options[0].High = 2 })
	step(api.ErrNone, func() { r.Links = r.Links[:1] })

	step(api.ErrForm, func() { r.Emit.Type = "zz" })
	step(api.ErrNone, func() { r.Emit.Type = "b" })
	step(api.ErrType, func() { r.Emit.Values = r.Emit.Values[:1] })
	o := &r.Emit.Values[0]
	step(api.ErrKind, func() { o.Kind = api.Own })
	step(api.ErrForm, func() { *o = wrong; o.Kind, o.Var = api.Other, "u" })
	step(api.ErrNone, func() { o.Var = "x" })
	step(api.ErrForm, func() { *o = other("x", "zz") })
	step(api.ErrNone, func() { *o = other("x", "n") })
	step(api.ErrType, func() { *o = other("x", "s") })

	step(api.ErrSize, func() {
		b.Rules[1] = api.Rule{Name: "r", Whens: []api.Pattern{{Var: "x", Type: "c"}}, Emit: api.Emit{Type: "c", Values: []api.Operand{{}}}}
	})
	step(api.ErrType, func() { b.Rules[1].Emit.Values = nil })
	step(api.ErrTwice, func() { b.Rules[1].Name = "s" })
	step(api.ErrEndless, func() { b.Rules[1].Emit.Type = "" })
	step(api.ErrEndless, func() { b.Rules[0].Emit.Type, b.Rules[0].Emit.Values = "c", nil })
	step(api.OK, func() {})
}

// TestUnchanged: neither Check nor Show changes the book that it is given, its spare room neither, nor keeps any of it.
func TestUnchanged(t *testing.T) {
	for _, s := range []string{wholeBook, wholeBook + " rule one { when x : a ; }", wholeBook + " rule four { when x : d ; emit d ( 1 , x . t , 1 ) ; }", ""} {
		b, was := roomy(read(t, s)), roomy(read(t, s))
		e := Check(b)
		l, f := Show(b)
		if !sameRoom(reflect.ValueOf(b), reflect.ValueOf(was)) {
			t.Errorf("%s: the book is changed: %+v", s, b)
		}
		again, g := Show(was)
		if e != Check(was) || f != g || !slices.Equal(l, again) {
			t.Errorf("%s: %v, %v, then %v, %v", s, e, f, Check(was), g)
		}
		full := l[:cap(l)]
		for i := range full {
			full[i] = api.Token{Kind: 9, Text: "gone", Int: 9}
		}
		if !sameRoom(reflect.ValueOf(b), reflect.ValueOf(was)) || slices.ContainsFunc(again[:cap(again)], func(x api.Token) bool { return x.Kind == 9 }) {
			t.Errorf("%s: an answer shares memory", s)
		}
	}
}

// roomy: a copy of a book, with spare room behind each list that is not empty itself.
func roomy(b api.Book) api.Book {
	out := copied(reflect.ValueOf(b), 2)
	return out.Interface().(api.Book)
}

// copied: a copy of all of a value, with so much spare room in its lists, filled with their first elements.
func copied(v reflect.Value, room int) reflect.Value {
	out := reflect.New(v.Type()).Elem()
	out.Set(v)
	switch v.Kind() {
	case reflect.Struct:
		for i := range v.NumField() {
			out.Field(i).Set(copied(v.Field(i), room))
		}
	case reflect.Slice:
		n := v.Len()
		if n == 0 {
			return reflect.Zero(v.Type())
		}
		out = reflect.MakeSlice(v.Type(), n+room, n+room)
		for i := range n + room {
			out.Index(i).Set(copied(v.Index(i%n), room))
		}
		return out.Slice(0, n)
	}
	return out
}

// sameRoom: are two values the same, in the spare room of their lists too?
func sameRoom(a, b reflect.Value) bool {
	return same(a, b, func(v reflect.Value) reflect.Value { return v.Slice(0, v.Cap()) })
}

// sameBook: are two books the same, whether their lists without elements are nil or not?
func sameBook(a, b api.Book) bool {
	return same(reflect.ValueOf(a), reflect.ValueOf(b), func(v reflect.Value) reflect.Value { return v })
}

func same(a, b reflect.Value, list func(v reflect.Value) reflect.Value) bool {
	switch a.Kind() {
	case reflect.Struct:
		for i := range a.NumField() {
			if !same(a.Field(i), b.Field(i), list) {
				return false
			}
		}
		return true
	case reflect.Slice:
		a, b = list(a), list(b)
		if a.Len() != b.Len() {
			return false
		}
		for i := range a.Len() {
			if !same(a.Index(i), b.Index(i), list) {
				return false
			}
		}
		return true
	}
	return a.Interface() == b.Interface()
}
