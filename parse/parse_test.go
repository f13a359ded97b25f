package parse

import (
	"math"
	"math/rand"
	"reflect"
	"slices"
	"strconv"
	"strings"
	"testing"

	"dotterel/api"
	"dotterel/lex"
)

// keptWords, as the chapter names them; relationWords by their numbers.
var (
	keptWords     = strings.Fields("and any emit int last many not of or over rule text time type when where within")
	relationWords = strings.Fields("before after meets metby overlaps overlapped starts startedby during contains finishes finishedby equals")
)

// tokens of a text that is written out in a test.
func tokens(t *testing.T, s string) []api.Token {
	t.Helper()
	l, at, e := lex.Cut(s)
	if e != api.OK {
		t.Fatalf("Cut(%q): %d, %v", s, at, e)
	}
	return l
}

// same: two books, whether a list without elements is nil or not.
func same(a, b api.Book) bool { return reflect.DeepEqual(tidyBook(a), tidyBook(b)) }

// tidy: a list without elements as nil.
func tidy[T any](l []T, part func(T) T) []T {
	var out []T
	for _, x := range l {
		out = append(out, part(x))
	}
	return out
}

func itself[T any](x T) T { return x }

func tidyBook(b api.Book) api.Book {
	b.Types = tidy(b.Types, func(t api.Type) api.Type {
		t.Fields = tidy(t.Fields, itself)
		return t
	})
	b.Rules = tidy(b.Rules, func(r api.Rule) api.Rule {
		r.Whens = tidy(r.Whens, tidyPattern)
		r.Nots = tidy(r.Nots, tidyPattern)
		r.Manies = tidy(r.Manies, func(m api.Many) api.Many {
			m.Pattern = tidyPattern(m.Pattern)
			return m
		})
		r.Links = tidy(r.Links, func(k api.Link) api.Link {
			k.Options = tidy(k.Options, itself)
			return k
		})
		r.Emit.Values = tidy(r.Emit.Values, itself)
		return r
	})
	return b
}

func tidyPattern(p api.Pattern) api.Pattern {
	p.Where = tidyCondition(p.Where)
	return p
}

func tidyCondition(c api.Condition) api.Condition {
	c.Subs = tidy(c.Subs, tidyCondition)
	return c
}

// wantBook: a text, and the book that Parse must answer of it.
func wantBook(t *testing.T, s string, want api.Book) {
	t.Helper()
	b, place, e := Parse(tokens(t, s))
	if !same(b, want) || place != 0 || e != api.OK {
		t.Errorf("Parse(%s) = %+v, %d, %v, want %+v", s, b, place, e, want)
	}
}

// wantError: tokens, and what Parse must refuse of them.
func wantError(t *testing.T, l []api.Token, place int, want api.Errno) {
	t.Helper()
	b, at, e := Parse(l)
	if !same(b, api.Book{}) || at != place || e != want {
		s, _ := lex.Join(l)
		t.Errorf("Parse(%.300s, %d tokens) = %+v, %d, %v, want an empty book, %d, %v", s, len(l), b, at, e, place, want)
	}
}

// refused: a text, with a ^ ahead of the token that must be refused, or at its end.
func refused(t *testing.T, s string, want api.Errno) {
	t.Helper()
	ahead, behind, ok := strings.Cut(s, "^")
	if !ok {
		t.Fatalf("no ^ in %q", s)
	}
	l := tokens(t, ahead)
	wantError(t, append(slices.Clone(l), tokens(t, behind)...), len(l), want)
}

// ofRule: the book of a single rule r.
func ofRule(r api.Rule) api.Book {
	r.Name = "r"
	return api.Book{Rules: []api.Rule{r}}
}

func number(n int) api.Operand {
	return api.Operand{Kind: api.Constant, Value: api.Value{Kind: api.Int, Int: n}}
}

func text(s string) api.Operand {
	return api.Operand{Kind: api.Constant, Value: api.Value{Kind: api.Text, Text: s}}
}

func own(s string) api.Operand { return api.Operand{Kind: api.Own, Field: s} }

func other(v, f string) api.Operand { return api.Operand{Kind: api.Other, Var: v, Field: f} }

func test(kind int, l, r api.Operand) api.Condition {
	return api.Condition{Kind: kind, Left: l, Right: r}
}

func group(kind int, l ...api.Condition) api.Condition { return api.Condition{Kind: kind, Subs: l} }

// TestKept: P6.1: all words that are kept, and none beside them.
func TestKept(t *testing.T) {
	if len(keptWords) != 17 || len(relationWords) != 13 {
		t.Fatal("the chapter has 17 words and 13 relations")
	}
	all := slices.Concat(keptWords, relationWords)
	for _, s := range all {
		if !Kept(s) {
			t.Errorf("Kept(%q) is false", s)
		}
		for _, other := range []string{s + "s", s + "1", s + " ", " " + s, s[1:], s[:len(s)-1], strings.ToUpper(s), s + "\x00"} {
			if Kept(other) != slices.Contains(all, other) {
				t.Errorf("Kept(%q) is %v", other, Kept(other))
			}
		}
	}
	for _, s := range []string{"", "x", "n", "a", "always", "open", "own", "number", "string", "word", "name", "match", "overlappedby", "overlappe", "is", "none", "true", "0", "{", ";", "=", "\"type\"", "été", strings.Repeat("a", 1000)} {
		if Kept(s) {
			t.Errorf("Kept(%q) is true", s)
		}
	}
}

// namePlaces: each place of a NAME, and the words of the language that may stand there too.
var namePlaces = []struct{ s, on string }{
	{"type ^@ { }", ""},
	{"type t { ^@ : int }", ""},
	{"type t { a : int , ^@ : int }", ""},
	{"rule ^@ { }", ""},
	{"rule r { when ^@ : a ; }", ""},
	{"rule r { when x : ^@ ; }", ""},
	{"rule r { not ^@ : a ; }", ""},
	{"rule r { not x : ^@ ; }", ""},
	{"rule r { many 2 ^@ : a within 3 ; }", "of"},
	{"rule r { many 2 of ^@ x : a within 3 ; }", ""},
	{"rule r { many 2 of f ^@ : a within 3 ; }", ""},
	{"rule r { many 2 of f x : ^@ within 3 ; }", ""},
	{"rule r { emit ^@ ( ) ; }", ""},
	{"rule r { emit e ( ^@ ) ; }", ""},
	{"rule r { emit e ( ^@ . f ) ; }", ""},
	{"rule r { emit e ( x . ^@ ) ; }", ""},
	{"rule r { emit e ( 1 , ^@ ) ; }", ""},
	{"rule r { where ^@ before y ; }", ""},
	{"rule r { where x before ^@ ; }", "or"},
	{"rule r { where x before ( 1 , 2 ) ^@ ; }", "or"},
	{"rule r { when x : a [ n = ^@ ] ; }", ""},
	{"rule r { when x : a [ n = ^@ . f ] ; }", ""},
	{"rule r { when x : a [ n = y . ^@ ] ; }", ""},
	{"rule r { when x : a [ ^@ = n ] ; }", "not"},
	{"rule r { when x : a [ not ^@ . f = n ] ; }", "not"},
	{"rule r { when x : a [ ( ^@ = n ) ] ; }", "not"},
}

// TestKeptIsNoName: P6.1: a NAME is a Word that is not kept, in each of a NAME's places.
func TestKeptIsNoName(t *testing.T) {
	for _, p := range namePlaces {
		for _, w := range slices.Concat(keptWords, relationWords) {
			if w != p.on {
				refused(t, strings.ReplaceAll(p.s, "@", w), api.ErrForm)
			}
		}
		for _, w := range []string{":", ";", ".", "=", "]", "<=", "{", "\"u\" \"u\"", "7 7"} {
			hold(t, tokens(t, strings.NewReplacer("@", w, "^", "").Replace(p.s)))
		}
		for _, w := range []string{"u", "befor", "befores", "typ", "z9", "abcdefghij", "overlap"} {
			s := strings.NewReplacer("@", w, "^", "").Replace(p.s)
			if _, place, e := Parse(tokens(t, s)); place != 0 || e != api.OK {
				t.Errorf("Parse(%s): %d, %v", s, place, e)
			}
		}
	}
}

// TestBooks: P6.3: types and rules, in their order, mixed.
func TestBooks(t *testing.T) {
	wantBook(t, "", api.Book{})
	wantBook(t, "type a { }", api.Book{Types: []api.Type{{Name: "a"}}})
	wantBook(t, "rule a { }", api.Book{Rules: []api.Rule{{Name: "a"}}})
	wantBook(t, "type a { n : int }", api.Book{Types: []api.Type{{Name: "a", Fields: []api.Field{{Name: "n", Kind: api.Int}}}}})
	wantBook(t, "type a { n : text }", api.Book{Types: []api.Type{{Name: "a", Fields: []api.Field{{Name: "n", Kind: api.Text}}}}})
	wantBook(t, "rule b { } type b { s : text , n : int , s : int } rule a { } rule b { } type a { } type b { }", api.Book{
		Types: []api.Type{{Name: "b", Fields: []api.Field{{Name: "s", Kind: api.Text}, {Name: "n", Kind: api.Int}, {Name: "s", Kind: api.Int}}}, {Name: "a"}, {Name: "b"}},
		Rules: []api.Rule{{Name: "b"}, {Name: "a"}, {Name: "b"}},
	})
	var many api.Book // limits of books are not the grammar's
	s := ""
	for i := range api.MaxTypes + api.MaxRules + 2 {
		n := "t" + strconv.Itoa(i)
		many.Types = append(many.Types, api.Type{Name: n})
		many.Rules = append(many.Rules, api.Rule{Name: n})
		s += "type " + n + " { } rule " + n + " { } "
	}
	wantBook(t, s, many)
}

// TestClauses: P6.3: each clause, with and without each part that may be left out.
func TestClauses(t *testing.T) {
	n1 := test(api.Equal, own("n"), number(1))
	for _, c := range []struct {
		s    string
		want api.Rule
	}{
		{"when x : a ;", api.Rule{Whens: []api.Pattern{{Var: "x", Type: "a"}}}},
		{"when x : a over time 3 ;", api.Rule{Whens: []api.Pattern{{Var: "x", Type: "a", Window: api.Time, N: 3}}}},
		{"when x : a over last 4 ;", api.Rule{Whens: []api.Pattern{{Var: "x", Type: "a", Window: api.Last, N: 4}}}},
		{"when x : a over time 0 ;", api.Rule{Whens: []api.Pattern{{Var: "x", Type: "a", Window: api.Time}}}},
		{"when x : a over last 1125899906842624 ;", api.Rule{Whens: []api.Pattern{{Var: "x", Type: "a", Window: api.Last, N: api.MaxInt}}}},
		{"when x : a [ n = 1 ] ;", api.Rule{Whens: []api.Pattern{{Var: "x", Type: "a", Where: n1}}}},
		{"when x : a [ n = 1 ] over time 3 ;", api.Rule{Whens: []api.Pattern{{Var: "x", Type: "a", Where: n1, Window: api.Time, N: 3}}}},
		{"not x : a ;", api.Rule{Nots: []api.Pattern{{Var: "x", Type: "a"}}}},
		{"not x : a [ n = 1 ] ;", api.Rule{Nots: []api.Pattern{{Var: "x", Type: "a", Where: n1}}}},
		{"many 2 x : a within 3 ;", api.Rule{Manies: []api.Many{{Count: 2, Pattern: api.Pattern{Var: "x", Type: "a", Window: api.Time, N: 3}}}}},
		{"many 0 x : a within 0 ;", api.Rule{Manies: []api.Many{{Pattern: api.Pattern{Var: "x", Type: "a", Window: api.Time}}}}},
		{"many 2 of n x : a within 3 ;", api.Rule{Manies: []api.Many{{Count: 2, Field: "n", Pattern: api.Pattern{Var: "x", Type: "a", Window: api.Time, N: 3}}}}},
		{"many 2 x : a [ n = 1 ] within 3 ;", api.Rule{Manies: []api.Many{{Count: 2, Pattern: api.Pattern{Var: "x", Type: "a", Where: n1, Window: api.Time, N: 3}}}}},
		{"many 2 of n x : a [ n = 1 ] within 3 ;", api.Rule{Manies: []api.Many{{Count: 2, Field: "n", Pattern: api.Pattern{Var: "x", Type: "a", Where: n1, Window: api.Time, N: 3}}}}},
		{"emit a ( ) ;", api.Rule{Emit: api.Emit{Type: "a"}}},
		{"emit a ( 1 ) ;", api.Rule{Emit: api.Emit{Type: "a", Values: []api.Operand{number(1)}}}},
		{"emit a ( 1 , \"s\" , - 2 , n , x . n ) ;", api.Rule{Emit: api.Emit{Type: "a", Values: []api.Operand{number(1), text("s"), number(-2), own("n"), other("x", "n")}}}},
		{"where x before y ;", api.Rule{Links: []api.Link{{Left: "x", Options: []api.Option{{Relation: api.Before, High: -1}}, Right: "y"}}}},
		{"where x meets or after ( 1 , 2 ) or equals ( 0 , any ) or meets x ;", api.Rule{Links: []api.Link{{Left: "x", Right: "x", Options: []api.Option{
			{Relation: api.Meets, High: -1}, {Relation: api.After, Low: 1, High: 2}, {Relation: api.Equals, High: -1}, {Relation: api.Meets, High: -1},
		}}}}},
	} {
		wantBook(t, "rule r { "+c.s+" }", ofRule(c.want))
	}
}

// TestOrderOfClauses: P6.3: whens, nots, manies and links, each in their order, however they are mixed, the emit too.
func TestOrderOfClauses(t *testing.T) {
	s := `rule r { where a before b ; many 1 m : t within 9 ; emit e ( ) ; not u : t ; when x : t ; where b after a ;
		not v : w ; when y : w ; many 2 k : w within 8 ; when x : t ; where a equals a ; not u : t ; many 1 m : t within 9 ; }`
	w := func(v, k string) api.Pattern { return api.Pattern{Var: v, Type: k} }
	m := func(n int, v, k string, d int) api.Many {
		return api.Many{Count: n, Pattern: api.Pattern{Var: v, Type: k, Window: api.Time, N: d}}
	}
	k := func(l string, r int, to string) api.Link {
		return api.Link{Left: l, Options: []api.Option{{Relation: r, High: -1}}, Right: to}
	}
	wantBook(t, s, ofRule(api.Rule{
		Whens:  []api.Pattern{w("x", "t"), w("y", "w"), w("x", "t")},
		Nots:   []api.Pattern{w("u", "t"), w("v", "w"), w("u", "t")},
		Manies: []api.Many{m(1, "m", "t", 9), m(2, "k", "w", 8), m(1, "m", "t", 9)},
		Links:  []api.Link{k("a", api.Before, "b"), k("b", api.After, "a"), k("a", api.Equals, "a")},
		Emit:   api.Emit{Type: "e"},
	}))
}

// TestOneEmit: P6.3: where a rule has an emit, the grammar allows none any more; another rule has its own.
func TestOneEmit(t *testing.T) {
	refused(t, "rule r { emit a ( ) ; ^emit a ( ) ; }", api.ErrForm)
	refused(t, "rule r { emit a ( ) ; when x : a ; ^emit b ( 1 ) ; }", api.ErrForm)
	refused(t, "rule r { emit a ( 1 ) ; ^emit", api.ErrForm)
	refused(t, "rule r { emit a ( ) ; ^emit emit", api.ErrForm)
	refused(t, "rule r { emit a ( ) ; } rule s { emit a ( ) ; ^emit a ( ) ; }", api.ErrForm)
	refused(t, "rule r { ^; emit a ( ) ; emit a ( ) ; }", api.ErrForm)
	e := api.Emit{Type: "a"}
	wantBook(t, "rule r { emit a ( ) ; } rule s { emit a ( ) ; } rule t { }", api.Book{Rules: []api.Rule{{Name: "r", Emit: e}, {Name: "s", Emit: e}, {Name: "t"}}})
}

// TestRelations: P6.3: each relation, without brackets, with two NUMBERs and with "any".
func TestRelations(t *testing.T) {
	for i, w := range relationWords {
		for _, c := range []struct {
			s         string
			low, high int
		}{
			{"", 0, -1},
			{"( 0 , 0 )", 0, 0},
			{"( 2 , 5 )", 2, 5},
			{"( 5 , 2 )", 5, 2},
			{"( 1125899906842624 , 1125899906842624 )", api.MaxInt, api.MaxInt},
			{"( 0 , any )", 0, -1},
			{"( 7 , any )", 7, -1},
		} {
			wantBook(t, "rule r { where x "+w+c.s+" y ; }", ofRule(api.Rule{Links: []api.Link{
				{Left: "x", Options: []api.Option{{Relation: i + 1, Low: c.low, High: c.high}}, Right: "y"},
			}}))
		}
		refused(t, "rule r { where x "+w+" ( ^any , 2 ) y ; }", api.ErrForm)
		refused(t, "rule r { where x "+w+" ( ^- 1 , 2 ) y ; }", api.ErrForm)
		refused(t, "rule r { where x "+w+" ( 1 , ^- 1 ) y ; }", api.ErrForm)
		refused(t, "rule r { where x "+w+" ( 1 ^) y ; }", api.ErrForm)
		refused(t, "rule r { where x "+w+" ( ^) y ; }", api.ErrForm)
		refused(t, "rule r { where x "+w+" ( 1 , 2 ^, 3 ) y ; }", api.ErrForm)
		refused(t, "rule r { where x "+w+" ( 1 , 2 ^y ; }", api.ErrForm)
		refused(t, "rule r { where x "+w+" ^"+w+" y ; }", api.ErrForm)
		refused(t, "rule r { where x ^\""+w+"\" y ; }", api.ErrForm)
	}
	for _, w := range append([]string{"y", "overlap", "befor", "finished", "7", "\"\"", "(", "=", ";"}, keptWords...) {
		refused(t, "rule r { where x ^"+w+" y ; }", api.ErrForm)
		refused(t, "rule r { where x during or ^"+w+" y ; }", api.ErrForm)
	}
}

// wantCondition: a text of a condition, and what must come of it, in each kind of pattern.
func wantCondition(t *testing.T, s string, want api.Condition) {
	t.Helper()
	p := api.Pattern{Var: "x", Type: "a", Where: want}
	wantBook(t, "rule r { when x : a [ "+s+" ] ; }", ofRule(api.Rule{Whens: []api.Pattern{p}}))
	wantBook(t, "rule r { not x : a [ "+s+" ] ; }", ofRule(api.Rule{Nots: []api.Pattern{p}}))
	p.Window, p.N = api.Time, 5
	wantBook(t, "rule r { many 3 x : a [ "+s+" ] within 5 ; }", ofRule(api.Rule{Manies: []api.Many{{Count: 3, Pattern: p}}}))
}

// TestSides: P6.3: each kind of side, on the left and on the right, and the six comparisons.
func TestSides(t *testing.T) {
	sides := []struct {
		s    string
		want api.Operand
	}{
		{"0", number(0)},
		{"7", number(7)},
		{"1125899906842624", number(api.MaxInt)},
		{"- 0", number(0)},
		{"- 7", number(-7)},
		{"- 1125899906842624", number(-api.MaxInt)},
		{"\"\"", text("")},
		{"\"s\"", text("s")},
		{"\"type\"", text("type")},
		{"\"-\"", text("-")},
		{"\"a b\x00\xff#\"", text("a b\x00\xff#")},
		{"n", own("n")},
		{"x . n", other("x", "n")},
		{"n . n", other("n", "n")},
	}
	for _, l := range sides {
		for _, r := range sides {
			for _, c := range []struct {
				mark string
				want api.Condition
			}{
				{"=", test(api.Equal, l.want, r.want)},
				{"/=", test(api.Differ, l.want, r.want)},
				{"<", test(api.Less, l.want, r.want)},
				{"<=", test(api.Most, l.want, r.want)},
				{">", test(api.Less, r.want, l.want)},
				{">=", test(api.Most, r.want, l.want)},
			} {
				wantCondition(t, l.s+" "+c.mark+" "+r.s, c.want)
			}
		}
	}
	for _, s := range []string{"{", "}", "[", "]", "(", ")", ":", ";", ",", "-", "and", "or", "not", "equals", "7", "\"=\"", "n"} {
		refused(t, "rule r { when x : a [ n ^"+s+" 1 ] ; }", api.ErrForm)
	}
	refused(t, "rule r { when x : a [ - ^- 1 = 1 ] ; }", api.ErrForm)
	refused(t, "rule r { when x : a [ - ^n = 1 ] ; }", api.ErrForm)
	refused(t, "rule r { when x : a [ - ^\"1\" = 1 ] ; }", api.ErrForm)
	refused(t, "rule r { when x : a [ 1 ^. n = 1 ] ; }", api.ErrForm)
	refused(t, "rule r { when x : a [ x . n ^. n = 1 ] ; }", api.ErrForm)
	refused(t, "rule r { when x : a [ x . ^1 = 1 ] ; }", api.ErrForm)
	refused(t, "rule r { when x : a [ x . ^\"n\" = 1 ] ; }", api.ErrForm)
	refused(t, "rule r { when x : a [ 1 = ^] ; }", api.ErrForm)
	refused(t, "rule r { when x : a [ 1 ^] ; }", api.ErrForm)
	refused(t, "rule r { when x : a [ ^] ; }", api.ErrForm)
	refused(t, "rule r { when x : a [ 1 = 1 ^= 1 ] ; }", api.ErrForm)
	refused(t, "rule r { when x : a [ 1 = ^not 1 = 1 ] ; }", api.ErrForm)
	refused(t, "rule r { when x : a [ 1 = ^( 1 ) ] ; }", api.ErrForm)
	refused(t, "rule r { when x : a [ ( 1 ^) = 1 ] ; }", api.ErrForm)
}

// TestConditions: P6.3: an or and an and of one part and of more, not, and brackets, which leave nothing behind.
func TestConditions(t *testing.T) {
	c := func(n int) api.Condition { return test(api.Equal, own("n"), number(n)) }
	one, two, three, four := c(1), c(2), c(3), c(4)
	not := func(x api.Condition) api.Condition { return group(api.Not, x) }
	and := func(l ...api.Condition) api.Condition { return group(api.And, l...) }
	or := func(l ...api.Condition) api.Condition { return group(api.Or, l...) }
	for _, c := range []struct {
		s    string
		want api.Condition
	}{
		{"1", one},
		{"( 1 )", one},
		{"( ( 1 ) )", one},
		{"1 and 2", and(one, two)},
		{"1 or 2", or(one, two)},
		{"1 and 2 and 3", and(one, two, three)},
		{"1 or 2 or 3", or(one, two, three)},
		{"1 or 2 or 3 or 1", or(one, two, three, one)},
		{"1 and 2 or 3", or(and(one, two), three)},
		{"1 or 2 and 3", or(one, and(two, three))},
		{"1 and 2 or 3 and 4", or(and(one, two), and(three, four))},
		{"1 and ( 2 or 3 ) and 4", and(one, or(two, three), four)},
		{"( 1 or 2 ) and ( 3 or 4 )", and(or(one, two), or(three, four))},
		{"( 1 or 2 ) or 3", or(or(one, two), three)},
		{"1 or ( 2 or 3 )", or(one, or(two, three))},
		{"( 1 and 2 ) and 3", and(and(one, two), three)},
		{"1 and ( 2 and 3 )", and(one, and(two, three))},
		{"( 1 and 2 or 3 )", or(and(one, two), three)},
		{"( ( 1 ) and ( ( 2 ) ) )", and(one, two)},
		{"not 1", not(one)},
		{"not not 1", not(not(one))},
		{"not ( 1 )", not(one)},
		{"( not 1 )", not(one)},
		{"not 1 and 2", and(not(one), two)},
		{"not ( 1 and 2 )", not(and(one, two))},
		{"1 or not 2 or 3", or(one, not(two), three)},
		{"not ( 1 or not ( 2 and 3 ) ) and 4", and(not(or(one, not(and(two, three)))), four)},
	} {
		s := c.s
		for _, d := range []string{"1", "2", "3", "4"} {
			s = strings.ReplaceAll(s, d, "n = "+d)
		}
		wantCondition(t, s, c.want)
	}
	for _, s := range []string{
		"n = 1 ^n = 2", "n = 1 ^not n = 2", "n = 1 ^( n = 2 )", "n = 1 or ^or n = 2", "n = 1 and ^and n = 2", "n = 1 and ^or n = 2",
		"^or n = 1", "^and n = 1", "n = 1 or ^", "n = 1 and ^", "not ^", "not ^and n = 1", "( ^)", "^) n = 1 (", "( n = 1 ^", "( n = 1 or n = 2 ^",
		"( ( n = 1 ) ^", "n = 1 ^)", "( n = 1 ) ^)", "( n = 1 ^, n = 2 )", "^[ n = 1 ]", "^{ n = 1 }", "^before", "n = 1 ^;",
	} {
		refused(t, "rule r { when x : a [ "+s+" ] ; }", api.ErrForm)
	}
}

// TestDeep: P6.4: a "not" or a "(" that MaxDepth - 1 such ones are open around already, and one fewer, in all ways to mix them.
func TestDeep(t *testing.T) {
	const most = api.MaxDepth - 1
	nest := func(mask, n int) (open, shut string) {
		for i := range n {
			if mask>>i&1 == 0 {
				open += "not "
			} else {
				open, shut = open+"( ", shut+") "
			}
		}
		return
	}
	for mask := range 1 << most {
		open, shut := nest(mask, most)
		s := "rule r { when x : a [ " + open + "n = 1 " + shut + "] ; }"
		if _, place, e := Parse(tokens(t, s)); place != 0 || e != api.OK {
			t.Errorf("Parse(%s): %d, %v", s, place, e)
		}
		for _, last := range []string{"not", "("} {
			for _, behind := range []string{"", "n", "n = 1 ) " + shut + "] ; }", "n = 1 " + shut + "] ; }", "not not not", "( ( (", "type", ") ) )", "1 1 1"} {
				refused(t, "rule r { when x : a [ "+open+"^"+last+" "+behind, api.ErrDeep)
				refused(t, "rule r { not x : a [ n = 1 and "+open+"n = 2 or n = 2 "+shut+"or "+open+"^"+last+" "+behind, api.ErrDeep)
				refused(t, "rule r { many 2 x : a [ ( n = 1 ) and "+open+"^"+last+" "+behind, api.ErrDeep)
			}
			refused(t, "rule r { when x : a [ "+open+"n = ^"+last+" n", api.ErrForm)
			refused(t, "rule r { when x : a [ "+open+"n ^"+last, api.ErrForm)
			refused(t, "rule r { when x : a [ "+open+"n = 1 ^"+last, api.ErrForm)
			refused(t, "rule r { when x : a ^: "+open+last, api.ErrForm)
		}
		refused(t, "rule r { when x : a [ "+open+"^", api.ErrShort)
		refused(t, "rule r { when x : a [ "+open+"^and", api.ErrForm)
	}
}

// TestDeepIsClosed: P6.4: what is closed again is not around, and no other "not" or "(" counts.
func TestDeepIsClosed(t *testing.T) {
	const most = api.MaxDepth - 1
	nots := strings.Repeat("not ", most)
	marks, shuts := strings.Repeat("( ", most), strings.Repeat(") ", most)
	for _, s := range []string{
		"when x : a [ " + strings.Repeat("not n = 1 and ", 30) + nots + "n = 1 ] ;",
		"when x : a [ " + strings.Repeat("( n = 1 ) or ", 30) + marks + "n = 1 " + shuts + "] ;",
		"when x : a [ " + strings.Repeat(nots+"n = 1 or ", 5) + marks + "n = 1 " + shuts + "] ;",
		strings.Repeat("not x : a [ "+nots+"n = 1 ] ; ", 10),
		strings.Repeat("when x : a [ "+marks+"n = 1 "+shuts+"] ; ", 10),
		strings.Repeat("not x : a ; ", 20) + "when x : a [ " + nots + "n = 1 ] ;",
		"where x before " + strings.Repeat("( 1 , 2 ) or before ", 20) + "( 1 , 2 ) y ; when x : a [ " + nots + "n = 1 ] ;",
		"emit a ( ) ; when x : a [ " + marks + "n = 1 " + shuts + "] ;",
		"when x : a [ " + marks + "n = 1 " + shuts + "] ; emit a ( ) ; where x before ( 1 , 2 ) y ; not u : a ;",
		"when x : a [ not ( not ( not n = 1 or not ( not n = 2 ) ) ) ] ;",
	} {
		if _, place, e := Parse(tokens(t, "rule r { "+s+" }")); place != 0 || e != api.OK {
			t.Errorf("Parse(%s): %d, %v", s, place, e)
		}
	}
	refused(t, "rule r { when x : a [ "+nots+"n = 1 and "+nots+"^( n", api.ErrDeep)
	refused(t, "rule r { when x : a [ ( not n = 1 and "+strings.Repeat("not ", most-1)+"^not n", api.ErrDeep)
}

// wholeBook has every clause, with each part.
const wholeBook = `type a { n : int , s : text } type c { }
	rule r { when x : a [ not ( n >= - 1 or s = "t" and n < x . n ) ] over time 3 ; when y : c over last 2 ; not u : c [ 1 /= 2 ] ; many 2 of n p : a [ n <= 3 ] within 4 ;
	emit a ( x . n , "s" ) ; where x before ( 1 , any ) or meets or after ( 0 , 2 ) y ; } rule s { }`

// TestShort: P6.4: a book that ends too early behind each of its tokens tells ErrShort, unless it is whole there.
func TestShort(t *testing.T) {
	l := tokens(t, wholeBook)
	if _, place, e := Parse(l); place != 0 || e != api.OK {
		t.Fatalf("the whole book: %d, %v", place, e)
	}
	open := 0
	for n, x := range l {
		if n == 0 || open == 0 && l[n-1].Text == "}" {
			if _, place, e := Parse(l[:n]); place != 0 || e != api.OK {
				t.Errorf("the first %d tokens: %d, %v", n, place, e)
			}
		} else {
			wantError(t, l[:n], n, api.ErrShort)
			wantError(t, l[:n:n], n, api.ErrShort)
		}
		open += strings.Count(x.Text, "{") - strings.Count(x.Text, "}")
	}
}

// TestMore: P6.4: a token more, behind a book and at each place of one, as the grammar has it.
func TestMore(t *testing.T) {
	l := tokens(t, wholeBook)
	for _, s := range append(slices.Concat(keptWords, relationWords), "x", "7", "\"s\"", "{", "}", "[", "]", "(", ")", ":", ";", ",", ".", "-", "=", "<", "<=") {
		x := tokens(t, s)[0]
		if s == "type" || s == "rule" {
			wantError(t, append(slices.Clone(l), x), len(l)+1, api.ErrShort)
		} else {
			wantError(t, append(slices.Clone(l), x), len(l), api.ErrForm)
		}
		for i := range l {
			hold(t, slices.Insert(slices.Clone(l), i, x))
			changed := slices.Clone(l)
			changed[i] = x
			hold(t, changed)
		}
	}
	for i := range l {
		hold(t, slices.Delete(slices.Clone(l), i, i+1))
	}
}

// TestForms: P6.4: wrong tokens at the beginning, in the midst and at the end, each at its place.
func TestForms(t *testing.T) {
	for _, s := range []string{
		"^when x : a ;", "^x", "^7", "^\"type\" a { }", "^{", "^}", "^; type a { }", "^not x : a ;", "type a { } ^;", "type a { } ^}", "type a { } ^a { }", "rule r { } ^; rule s { }",
		"type ^{ }", "type a ^a { }", "type a ^; { }", "type a ^( )", "type a { ^, }", "type a { n ^int }", "type a { n : ^n }", "type a { n : ^time }", "type a { n : ^1 }", "type a { n : ^\"int\" }", "type a { n : int ^; }", "type a { n : int , ^}", "type a { n : int ^s : text }",
		"rule ^{ }", "rule r ^( )", "rule r { ^; }", "rule r { ^x : a ; }", "rule r { ^type a { } }", "rule r { ^rule s { } }", "rule r { ^\"when\" x : a ; }", "rule r { ^over ; }",
		"rule r { when x : a ^}", "rule r { not x : a ^}", "rule r { many 1 x : a within 1 ^}", "rule r { emit a ( ) ^}", "rule r { where x before y ^}",
		"rule r { when x : a ^when y : a ; }", "rule r { when x : a ^, y : a ; }", "rule r { when x : a ; ^; }",
		"rule r { when x ^a ; }", "rule r { when ^: a ; }", "rule r { when x : ^; }", "rule r { when x : a over ^3 ; }", "rule r { when x : a over time ^; }", "rule r { when x : a over last ^n ; }", "rule r { when x : a over ^within 3 ; }", "rule r { when x : a over last ^- 1 ; }", "rule r { when x : a over time 3 ^over last 2 ; }", "rule r { when x : a over time 3 ^[ n = 1 ] ; }", "rule r { when x : a ^within 3 ; }", "rule r { when x : a [ n = 1 ] ^[ n = 1 ] ; }", "rule r { when x : a ^time 3 ; }",
		"rule r { not x : a ^over time 3 ; }", "rule r { not x : a ^within 3 ; }", "rule r { not ^not x : a ; }", "rule r { not ^( x : a ) ; }",
		"rule r { many ^x : a within 3 ; }", "rule r { many ^- 2 x : a within 3 ; }", "rule r { many ^\"2\" x : a within 3 ; }", "rule r { many 2 of ^2 x : a within 3 ; }", "rule r { many 2 n ^x : a within 3 ; }", "rule r { many 2 x : a ^; }", "rule r { many 2 x : a ^over time 3 ; }", "rule r { many 2 x : a within ^; }", "rule r { many 2 x : a within ^any ; }", "rule r { many 2 x : a within 3 ^[ n = 1 ] ; }", "rule r { many 2 x : a within ^time 3 ; }",
		"rule r { emit ^( ) ; }", "rule r { emit a ^; }", "rule r { emit a ^[ ] ; }", "rule r { emit a ( ^, ) ; }", "rule r { emit a ( 1 ^; }", "rule r { emit a ( 1 ^2 ) ; }", "rule r { emit a ( 1 , ^) ; }", "rule r { emit a ( ^( 1 ) ) ; }", "rule r { emit a ( 1 ^= 1 ) ; }", "rule r { emit a ( ) ^( ) ; }", "rule r { emit a ( ^any ) ; }", "rule r { emit a ^: b ( ) ; }",
		"rule r { where ^before y ; }", "rule r { where x ^y ; }", "rule r { where x before ^; }", "rule r { where x before or ^y ; }", "rule r { where x before y ^z ; }", "rule r { where x before y ^or z ; }", "rule r { where x before ( 1 , 2 ^; }", "rule r { where x ^( before ) y ; }", "rule r { where x before ( 1 , ^y ) y ; }", "rule r { where x before ( ^y , 1 ) y ; }", "rule r { where x before ^, meets y ; }", "rule r { where x before ^1 y ; }", "rule r { where ^1 before y ; }", "rule r { where x ^. n before y ; }", "rule r { where x before ^and meets y ; }",
		"rule r { when x : a [ n = 1 ^; }", "rule r { when x : a [ n = 1 ^) ; }", "rule r { when x : a ^n = 1 ] ; }", "rule r { when x : a ^] ; }", "rule r { when x : a ^( n = 1 ) ; }",
	} {
		refused(t, s, api.ErrForm)
	}
}

// badTokens that may not be, and what P5.4 tells of them.
var badTokens = []struct {
	t api.Token
	e api.Errno
}{
	{api.Token{}, api.ErrKind},
	{api.Token{Kind: 5, Text: "type"}, api.ErrKind},
	{api.Token{Kind: -1}, api.ErrKind},
	{api.Token{Kind: math.MinInt}, api.ErrKind},
	{api.Token{Kind: api.Word}, api.ErrSize},
	{api.Token{Kind: api.Word, Text: "abcdefghijk"}, api.ErrSize},
	{api.Token{Kind: api.Word, Text: "Type"}, api.ErrForm},
	{api.Token{Kind: api.Word, Text: "type", Int: 1}, api.ErrForm},
	{api.Token{Kind: api.Number, Int: -1}, api.ErrRange},
	{api.Token{Kind: api.Number, Int: api.MaxInt + 1}, api.ErrRange},
	{api.Token{Kind: api.Number, Text: "1"}, api.ErrForm},
	{api.Token{Kind: api.String, Text: "\""}, api.ErrForm},
	{api.Token{Kind: api.String, Int: 1}, api.ErrForm},
	{api.Token{Kind: api.String, Text: "123456789012345678901"}, api.ErrSize},
	{api.Token{Kind: api.Mark}, api.ErrForm},
	{api.Token{Kind: api.Mark, Text: "type"}, api.ErrForm},
	{api.Token{Kind: api.Mark, Text: "!"}, api.ErrForm},
	{api.Token{Kind: api.Mark, Text: "{", Int: 2}, api.ErrForm},
}

// TestBadTokens: P6.4: the first token that may not be tells its error and its place, ahead of what the grammar says of those ahead of it.
func TestBadTokens(t *testing.T) {
	l := tokens(t, wholeBook)
	for _, b := range badTokens {
		wantError(t, []api.Token{b.t}, 0, b.e)
		for i := range l {
			changed := slices.Clone(l)
			changed[i] = b.t
			wantError(t, changed, i, b.e)
			wantError(t, changed[:i+1], i, b.e)
		}
		wantError(t, append(slices.Clone(l), b.t), len(l), b.e)
		for _, ahead := range []string{"x", "; ;", "type type", "rule r { emit a ( ) ; emit a ( ) ;", "rule r { when x : a [" + strings.Repeat(" not", api.MaxDepth+3), "type a {"} {
			n := tokens(t, ahead)
			wantError(t, append(slices.Clone(n), b.t), len(n), b.e)
			for _, c := range badTokens {
				wantError(t, append(slices.Clone(n), b.t, c.t), len(n), b.e)
			}
		}
	}
}

// TestFull: P6.4: just MaxTokens tokens and one more, which goes ahead of everything.
func TestFull(t *testing.T) {
	types := strings.Repeat("type a { } ", api.MaxTokens/4)
	if api.MaxTokens%4 != 0 {
		t.Fatal("types of 4 tokens do not fill it")
	}
	l := tokens(t, types)
	if b, place, e := Parse(l); len(b.Types) != api.MaxTokens/4 || place != 0 || e != api.OK {
		t.Errorf("MaxTokens tokens: %d types, %d, %v", len(b.Types), place, e)
	}
	wantError(t, append(slices.Clone(l), l[0]), 0, api.ErrFull)
	wantError(t, append(slices.Clone(l), l[3]), 0, api.ErrFull)
	wantError(t, append(slices.Clone(l), api.Token{}), 0, api.ErrFull)
	wantError(t, append([]api.Token{{}}, l...), 0, api.ErrFull)
	wantError(t, append(slices.Clone(l), l...), 0, api.ErrFull)
	wantError(t, make([]api.Token, api.MaxTokens+1), 0, api.ErrFull)
	wantError(t, make([]api.Token, api.MaxTokens), 0, api.ErrKind)
	wantError(t, slices.Repeat(tokens(t, ";"), api.MaxTokens+1), 0, api.ErrFull)
	wantError(t, slices.Repeat(tokens(t, ";"), api.MaxTokens), 0, api.ErrForm)
	wantError(t, l[:api.MaxTokens-1], api.MaxTokens-1, api.ErrShort)
	last := slices.Clone(l)
	last[api.MaxTokens-1] = tokens(t, ",")[0]
	wantError(t, last, api.MaxTokens-1, api.ErrForm)
	last[api.MaxTokens-1] = api.Token{}
	wantError(t, last, api.MaxTokens-1, api.ErrKind)
	wantError(t, append(tokens(t, "type a {"), l[:api.MaxTokens-3]...), 3, api.ErrForm)
	open := tokens(t, "rule r { when x : a [ n = 1")
	for len(open) < api.MaxTokens {
		open = append(open, tokens(t, "or n = 1")...)
	}
	wantError(t, open[:api.MaxTokens], api.MaxTokens, api.ErrShort)
}

// TestUnchanged: Parse changes none of the tokens it is given, nor their spare room, and keeps none of them.
func TestUnchanged(t *testing.T) {
	for _, s := range []string{wholeBook, wholeBook + " x", "type a {", "rule r { when x : a [ " + strings.Repeat("( ", 9), ""} {
		l := append(tokens(t, s), tokens(t, "type spare { } 1 2 3")...)
		given := len(l) - 7
		was := slices.Clone(l)
		b, place, e := Parse(l[:given])
		if !slices.Equal(l, was) {
			t.Errorf("Parse(%s) changed its tokens: %+v", s, l)
		}
		for i := range l {
			l[i] = api.Token{Kind: api.Word, Text: "gone", Int: 9}
		}
		again, place2, e2 := Parse(was[:given])
		if !same(b, again) || place != place2 || e != e2 {
			t.Errorf("Parse(%s) answered %+v, %d, %v, then %+v, %d, %v", s, b, place, e, again, place2, e2)
		}
	}
}

// TestNothingShared: no two lists of an answer share memory, spare room too, nor do two answers.
func TestNothingShared(t *testing.T) {
	l := tokens(t, strings.Repeat(wholeBook+" ", 3))
	var owners []func() // of each list: spoil it, spare room too
	var looks []func() bool
	walk := func(b *api.Book) {
		for i := range b.Rules {
			r := &b.Rules[i]
			for j := range r.Whens {
				collect(&owners, &looks, r.Whens[j].Where.Subs, api.Condition{Kind: 99}, func(c api.Condition) bool { return c.Kind == 99 })
				for k := range r.Whens[j].Where.Subs {
					collect(&owners, &looks, r.Whens[j].Where.Subs[k].Subs, api.Condition{Kind: 99}, func(c api.Condition) bool { return c.Kind == 99 })
				}
			}
			collect(&owners, &looks, r.Whens, api.Pattern{N: 99}, func(p api.Pattern) bool { return p.N == 99 })
			collect(&owners, &looks, r.Nots, api.Pattern{N: 99}, func(p api.Pattern) bool { return p.N == 99 })
			collect(&owners, &looks, r.Manies, api.Many{Count: 99}, func(m api.Many) bool { return m.Count == 99 })
			for j := range r.Links {
				collect(&owners, &looks, r.Links[j].Options, api.Option{Low: 99}, func(o api.Option) bool { return o.Low == 99 })
			}
			collect(&owners, &looks, r.Links, api.Link{Left: "?"}, func(k api.Link) bool { return k.Left == "?" })
			collect(&owners, &looks, r.Emit.Values, api.Operand{Kind: 99}, func(o api.Operand) bool { return o.Kind == 99 })
		}
		for i := range b.Types {
			collect(&owners, &looks, b.Types[i].Fields, api.Field{Kind: 99}, func(f api.Field) bool { return f.Kind == 99 })
		}
		collect(&owners, &looks, b.Types, api.Type{Name: "?"}, func(t api.Type) bool { return t.Name == "?" })
		collect(&owners, &looks, b.Rules, api.Rule{Name: "?"}, func(r api.Rule) bool { return r.Name == "?" })
	}
	for range 2 {
		b, _, e := Parse(l)
		if e != api.OK {
			t.Fatal(e)
		}
		walk(&b)
	}
	for i, spoil := range owners {
		spoil()
		for j := i + 1; j < len(looks); j++ {
			if looks[j]() {
				t.Errorf("list %d shares with list %d", j, i)
			}
		}
	}
}

// collect a list: how to spoil all of its room, and whether any of it is spoilt.
func collect[T any](owners *[]func(), looks *[]func() bool, l []T, bad T, is func(T) bool) {
	all := l[:cap(l)]
	*owners = append(*owners, func() {
		for i := range all {
			all[i] = bad
		}
	})
	*looks = append(*looks, func() bool { return slices.ContainsFunc(all, is) })
}

// The grammar as the chapter has it, with a @ where a "not" or a bracket of a condition is closed.
const grammar = `
book = { "type" NAME "{" [ field { "," field } ] "}" | "rule" NAME "{" { clause ";" } "}" }
field = NAME ":" ( "int" | "text" )
clause = "when" pattern [ "over" ( "time" | "last" ) NUMBER ] | "not" pattern | "many" NUMBER [ "of" NAME ] pattern "within" NUMBER | "emit" NAME "(" [ side { "," side } ] ")" | "where" NAME option { "or" option } NAME
pattern = NAME ":" NAME [ "[" or "]" ]
option = RELATION [ "(" NUMBER "," ( NUMBER | "any" ) ")" ]
or = and { "or" and }
and = not { "and" not }
not = "not" not @ | "(" or ")" @ | side ( "=" | "/=" | "<" | "<=" | ">" | ">=" ) side
side = NUMBER | STRING | "-" NUMBER | NAME | NAME "." NAME
`

// node of the grammar: what it says first, and what stands within it.
type node struct {
	op   byte // 's' one behind the other, '|' one of them, '*' any number of times, 't' a token, 'r' a rule of the grammar, '@'
	name string
	subs []*node
}

// rules of the grammar, by their names.
var rules = func() map[string]*node {
	m := map[string]*node{}
	for line := range strings.Lines(grammar) {
		if l := strings.Fields(line); len(l) > 2 {
			n, rest := ways(l[2:])
			if len(rest) > 0 {
				panic(line)
			}
			m[l[0]] = n
		}
	}
	return m
}()

// ways: parts with | between them, up to a bracket that closes.
func ways(l []string) (*node, []string) {
	out := &node{op: '|', subs: []*node{{op: 's'}}}
	for len(l) > 0 {
		now := out.subs[len(out.subs)-1]
		w := l[0]
		l = l[1:]
		switch {
		case w == "|":
			out.subs = append(out.subs, &node{op: 's'})
		case w == "}" || w == "]" || w == ")":
			return out, append([]string{w}, l...)
		case w == "{" || w == "[" || w == "(":
			var n *node
			n, l = ways(l)
			l = l[1:]
			if w == "{" {
				n = &node{op: '*', subs: []*node{n}}
			} else if w == "[" {
				n = &node{op: '|', subs: []*node{n, {op: 's'}}}
			}
			now.subs = append(now.subs, n)
		case w == "@":
			now.subs = append(now.subs, &node{op: '@'})
		case w[0] == '"' || w == strings.ToUpper(w):
			now.subs = append(now.subs, &node{op: 't', name: w})
		default:
			now.subs = append(now.subs, &node{op: 'r', name: w})
		}
	}
	return out, nil
}

// stack of what must come, the next first.
type stack struct {
	n    *node
	rest *stack
}

// spread a stack: all those with a token first that it may become; an empty one is nil.
func spread(s *stack, out []*stack) []*stack {
	if s == nil || s.n.op == 't' {
		return append(out, s)
	}
	switch s.n.op {
	case 's':
		rest := s.rest
		for _, n := range slices.Backward(s.n.subs) {
			rest = &stack{n, rest}
		}
		return spread(rest, out)
	case '|':
		for _, n := range s.n.subs {
			out = spread(&stack{n, s.rest}, out)
		}
		return out
	case '*':
		return spread(&stack{s.n.subs[0], s}, spread(s.rest, out))
	case 'r':
		return spread(&stack{rules[s.n.name], s.rest}, out)
	}
	return spread(s.rest, out) // '@'
}

// fits: is a token what a stack has first?
func fits(s *stack, t api.Token) bool {
	if s == nil {
		return false
	}
	switch s.n.name {
	case "NAME":
		return t.Kind == api.Word && !slices.Contains(keptWords, t.Text) && !slices.Contains(relationWords, t.Text)
	case "NUMBER":
		return t.Kind == api.Number
	case "STRING":
		return t.Kind == api.String
	case "RELATION":
		return t.Kind == api.Word && slices.Contains(relationWords, t.Text)
	}
	return t.Kind != api.String && t.Kind != api.Number && "\""+t.Text+"\"" == s.n.name
}

// closing: how many conditions a stack closes.
func closing(s *stack) int {
	n := 0
	for ; s != nil; s = s.rest {
		if s.n.op == '@' {
			n++
		}
	}
	return n
}

// recognize tokens that may be by the grammar, going all ways at once: where they are wrong, and how.
func recognize(l []api.Token) (int, api.Errno) {
	now := spread(&stack{rules["book"], nil}, nil)
	emitted := false
	for i, t := range l {
		var next []*stack
		deep := 0
		for _, s := range now {
			if fits(s, t) && !(t.Kind == api.Word && t.Text == "emit" && emitted) {
				deep = max(deep, closing(s))
				next = spread(s.rest, next)
			}
		}
		if len(next) == 0 {
			return i, api.ErrForm
		}
		if deep > api.MaxDepth-1 {
			return i, api.ErrDeep
		}
		if t.Kind == api.Word && (t.Text == "emit" || t.Text == "rule") {
			emitted = t.Text == "emit"
		}
		now = next
	}
	if slices.Contains(now, nil) {
		return 0, api.OK
	}
	return len(l), api.ErrShort
}

// hold Parse against the grammar.
func hold(t *testing.T, l []api.Token) {
	t.Helper()
	place, e := recognize(l)
	if e != api.OK {
		wantError(t, l, place, e)
		return
	}
	if _, at, got := Parse(l); at != 0 || got != api.OK {
		s, _ := lex.Join(l)
		t.Errorf("Parse(%s): %d, %v", s, at, got)
	}
}

// writer of books that look drawn: each part is written into the book and as text, by different hands.
type writer struct {
	*rand.Rand
	s strings.Builder
}

func (w *writer) put(l ...string) {
	for _, s := range l {
		w.s.WriteString(s + " ")
	}
}

func (w *writer) any(l ...string) string { return l[w.Intn(len(l))] }

func (w *writer) name() string {
	s := w.any("a", "b", "n", "s", "x", "y", "z9", "typ", "abcdefghij")
	w.put(s)
	return s
}

func (w *writer) number() int {
	n := []int{0, 1, 2, 7, 120, api.MaxInt}[w.Intn(6)]
	w.put(strconv.Itoa(n))
	return n
}

func (w *writer) side() api.Operand {
	switch w.Intn(5) {
	case 0:
		return number(w.number())
	case 1:
		w.put("-")
		return number(-w.number())
	case 2:
		s := w.any("", "s", "not", "(", "\xff")
		w.put("\"" + s + "\"")
		return text(s)
	case 3:
		return own(w.name())
	}
	v := w.name()
	w.put(".")
	return other(v, w.name())
}

// condition with so many that may be nested in it; tight: within what binds so tight (0 an or, 1 an and, 2 a not).
func (w *writer) condition(room, tight int) api.Condition {
	if room > 0 && w.Intn(4) == 0 {
		w.put("(")
		c := w.condition(room-1, 0)
		w.put(")")
		return c
	}
	if room > 0 && w.Intn(3) == 0 {
		w.put("not")
		return group(api.Not, w.condition(room-1, 2))
	}
	kind := []int{0, api.And, api.Or}[w.Intn(3)]
	if kind == 0 || kind == api.Or && tight > 0 || kind == api.And && tight > 1 {
		return w.compared()
	}
	word, within := "and", 2
	if kind == api.Or {
		word, within = "or", 1
	}
	c := group(kind, w.condition(room, within))
	for range 1 + w.Intn(2) {
		w.put(word)
		c.Subs = append(c.Subs, w.condition(room, within))
	}
	return c
}

func (w *writer) compared() api.Condition {
	l := w.side()
	m := w.any("=", "/=", "<", "<=", ">", ">=")
	w.put(m)
	r := w.side()
	switch m {
	case "=":
		return test(api.Equal, l, r)
	case "/=":
		return test(api.Differ, l, r)
	case "<":
		return test(api.Less, l, r)
	case "<=":
		return test(api.Most, l, r)
	case ">":
		return test(api.Less, r, l)
	}
	return test(api.Most, r, l)
}

func (w *writer) pattern() api.Pattern {
	p := api.Pattern{Var: w.name()}
	w.put(":")
	p.Type = w.name()
	if w.Intn(2) == 0 {
		w.put("[")
		p.Where = w.condition(w.Intn(api.MaxDepth), 0)
		w.put("]")
	}
	return p
}

func (w *writer) clause(r *api.Rule) {
	switch w.Intn(5) {
	case 0:
		w.put("when")
		p := w.pattern()
		switch w.Intn(3) {
		case 0:
			w.put("over", "time")
			p.Window, p.N = api.Time, w.number()
		case 1:
			w.put("over", "last")
			p.Window, p.N = api.Last, w.number()
		}
		r.Whens = append(r.Whens, p)
	case 1:
		w.put("not")
		r.Nots = append(r.Nots, w.pattern())
	case 2:
		w.put("many")
		m := api.Many{Count: w.number()}
		if w.Intn(2) == 0 {
			w.put("of")
			m.Field = w.name()
		}
		m.Pattern = w.pattern()
		w.put("within")
		m.Pattern.Window, m.Pattern.N = api.Time, w.number()
		r.Manies = append(r.Manies, m)
	case 3:
		w.put("where")
		r.Links = append(r.Links, w.link())
	default:
		if r.Emit.Type != "" {
			w.clause(r)
			return
		}
		w.put("emit")
		r.Emit.Type = w.name()
		w.put("(")
		for i := range w.Intn(4) {
			if i > 0 {
				w.put(",")
			}
			r.Emit.Values = append(r.Emit.Values, w.side())
		}
		w.put(")", ";")
		return
	}
	w.put(";")
}

func (w *writer) link() api.Link {
	k := api.Link{Left: w.name()}
	for i := range 1 + w.Intn(3) {
		if i > 0 {
			w.put("or")
		}
		n := w.Intn(len(relationWords))
		w.put(relationWords[n])
		o := api.Option{Relation: n + 1, Low: 0, High: -1}
		switch w.Intn(3) {
		case 0:
			w.put("(")
			o.Low = w.number()
			w.put(",")
			o.High = w.number()
			w.put(")")
		case 1:
			w.put("(")
			o.Low = w.number()
			w.put(",", "any", ")")
		}
		k.Options = append(k.Options, o)
	}
	k.Right = w.name()
	return k
}

func (w *writer) book() api.Book {
	var b api.Book
	for range w.Intn(5) {
		if w.Intn(2) == 0 {
			w.put("type")
			t := api.Type{Name: w.name()}
			w.put("{")
			for i := range w.Intn(4) {
				if i > 0 {
					w.put(",")
				}
				n, k := w.name(), w.Intn(2)
				w.put(":", []string{"int", "text"}[k])
				t.Fields = append(t.Fields, api.Field{Name: n, Kind: k + 1})
			}
			w.put("}")
			b.Types = append(b.Types, t)
			continue
		}
		w.put("rule")
		r := api.Rule{Name: w.name()}
		w.put("{")
		for range w.Intn(5) {
			w.clause(&r)
		}
		w.put("}")
		b.Rules = append(b.Rules, r)
	}
	return b
}

// TestDrawnBooks: P6.3: of a book that is drawn and written by the grammar, the same book comes again.
func TestDrawnBooks(t *testing.T) {
	held := 0
	for seed := range 4000 {
		w := writer{Rand: rand.New(rand.NewSource(int64(seed)))}
		b := w.book()
		l, _, e := lex.Cut(w.s.String())
		if e != api.OK { // too long
			continue
		}
		held++
		got, place, e := Parse(l)
		if !same(got, b) || place != 0 || e != api.OK {
			t.Fatalf("Parse(%s) = %+v, %d, %v, want %+v", w.s.String(), got, place, e, b)
		}
	}
	if held < 3000 {
		t.Errorf("only %d books were held", held)
	}
}

// TestSpoiltBooks: P6.4: tokens of drawn books, spoilt here and there, held against the grammar.
func TestSpoiltBooks(t *testing.T) {
	all := tokens(t, strings.Join(slices.Concat(keptWords, relationWords), " ")+" a b n x 0 1 2 \"s\" \"\" \"not\" \"(\" <= >= /= { } [ ] ( ) : ; , . = < > - not ( not ( not ( not (")
	seen := map[api.Errno]int{}
	for seed := range 6000 {
		w := writer{Rand: rand.New(rand.NewSource(int64(seed)))}
		w.book()
		l, _, e := lex.Cut(w.s.String())
		if e != api.OK || len(l) == 0 || len(l) > api.MaxTokens-30 {
			continue
		}
		for range 1 + w.Intn(3) {
			i := w.Intn(len(l) + 1)
			switch k := min(i+w.Intn(3), len(l)); w.Intn(5) {
			case 0:
				l = slices.Delete(l, i, k)
			case 1:
				l = slices.Insert(l, i, all[w.Intn(len(all))])
			case 2:
				l = slices.Replace(l, i, k, all[w.Intn(len(all))])
			case 3:
				l = slices.Insert(l, i, slices.Clone(l[i:k])...)
			default:
				if at := slices.IndexFunc(l, func(t api.Token) bool { return t.Text == "[" }); at >= 0 {
					for range 5 + w.Intn(4) {
						l = slices.Insert(l, at+1, tokens(t, w.any("not", "("))...)
					}
				}
			}
		}
		_, e = recognize(l)
		seen[e]++
		hold(t, l)
	}
	for _, e := range []api.Errno{api.OK, api.ErrForm, api.ErrShort, api.ErrDeep} {
		if seen[e] < 20 {
			t.Errorf("%v was drawn %d times", e, seen[e])
		}
	}
}

// FuzzParse: no tokens make it panic, and its answers are the grammar's.
func FuzzParse(f *testing.F) {
	f.Add(wholeBook)
	f.Add("rule r { when x : a [ ( ( ( ( ( ( ( ( ( (")
	f.Add("type a { n : int , ")
	f.Fuzz(func(t *testing.T, s string) {
		if l, _, e := lex.Cut(s); e == api.OK {
			hold(t, l)
		}
	})
}
