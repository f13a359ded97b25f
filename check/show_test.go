package check

import (
	"fmt"
	"slices"
	"strings"
	"testing"

	"dotterel/api"
	"dotterel/lex"
	"dotterel/parse"
)

// wantText: what Show must answer, as a text with a blank behind each token.
func wantText(t *testing.T, b api.Book, want string) {
	t.Helper()
	l, e := Show(b)
	s, f := lex.Join(l)
	if e != api.OK || f != api.OK || s != want {
		t.Errorf("Show(%+v):\n%s, %v, %v, want\n%s", b, s, e, f, want)
	}
}

// tight: a text with just one blank behind each of its words.
func tight(s string) string { return strings.Join(append(strings.Fields(s), ""), " ") }

// TestShow: P7.5: books that are written as they are shown.
func TestShow(t *testing.T) {
	for _, s := range []string{
		"",
		"type a { }",
		"type a { n : int }",
		"type b { s : text , n : int , m : int , t : text } type a { }",
		"type a { } rule r { when x : a ; }",
		"type a { } rule r { when x : a over time 0 ; when y : a over last 1 ; when z : a over time 1073741824 ; }",
		"type a { n : int } rule r { when x : a [ n = 1 ] over last 120 ; not u : a [ n = x . n ] ; many 3 p : a [ n = x . n ] within 0 ; many 1125899906842624 of n q : a within 7 ; }",
		"type a { } type b { } rule r { when x : a ; emit b ( ) ; } rule s { when x : a ; } rule q { when x : b ; }",
		"type a { n : int , s : text } type b { n : int , s : text , m : int , t : text } rule r { when x : a ; when y : a ; emit b ( x . n , y . s , - 1125899906842624 , \"rule\" ) ; }",
		wholeBook,
	} {
		wantText(t, read(t, s), tight(s))
	}
}

// TestOrder: P7.5: types ahead of rules; of a rule whens, nots, manies, links, and the emit, however they were written.
func TestOrder(t *testing.T) {
	b := read(t, `rule r { emit c ( ) ; where x before u ; many 1 m : a within 9 ; not u : b ; when x : a ; where y after x ;
		many 2 k : b within 8 ; when y : b ; not v : a ; } type b { } rule q { where u equals z ; not u : a ; when z : b ; } type c { } type a { }`)
	wantText(t, b, tight(`type b { } type c { } type a { } rule r { when x : a ; when y : b ; not u : b ; not v : a ; many 1 m : a within 9 ; many 2 k : b within 8 ;
		where x before u ; where y after x ; emit c ( ) ; } rule q { when z : b ; not u : a ; where u equals z ; }`))
}

// ofCondition: a book with one when, its condition shown as this.
func ofCondition(c api.Condition) api.Book {
	return api.Book{
		Types: []api.Type{{Name: "a", Fields: []api.Field{{Name: "n", Kind: api.Int}, {Name: "s", Kind: api.Text}}}},
		Rules: []api.Rule{{Name: "r", Whens: []api.Pattern{{Var: "x", Type: "a"}, {Var: "y", Type: "a", Where: c}}}},
	}
}

func wantCondition(t *testing.T, c api.Condition, s string) {
	t.Helper()
	wantText(t, ofCondition(c), tight("type a { n : int , s : text } rule r { when x : a ; when y : a [ "+s+" ] ; }"))
	b := ofCondition(c)
	p := &b.Rules[0].Whens[1]
	p.Window, p.N = api.Time, 3
	wantText(t, b, tight("type a { n : int , s : text } rule r { when x : a ; when y : a [ "+s+" ] over time 3 ; }"))
	b.Rules[0].Nots, b.Rules[0].Whens = b.Rules[0].Whens[1:], b.Rules[0].Whens[:1]
	p.Window, p.N = api.Open, 0
	wantText(t, b, tight("type a { n : int , s : text } rule r { when x : a ; not y : a [ "+s+" ] ; }"))
	b.Rules[0].Nots = nil
	b.Rules[0].Manies = []api.Many{{Count: 0, Field: "n", Pattern: *p}}
	b.Rules[0].Manies[0].Pattern.Window = api.Time
	wantText(t, b, tight("type a { n : int , s : text } rule r { when x : a ; many 0 of n y : a [ "+s+" ] within 0 ; }"))
}

// TestShowComparisons: P7.5: each comparison, with each kind of side on the left and on the right.
func TestShowComparisons(t *testing.T) {
	type side struct {
		o api.Operand
		s string
	}
	for _, sides := range [][]side{
		{{number(0), "0"}, {number(7), "7"}, {number(-1), "- 1"}, {number(api.MaxInt), "1125899906842624"}, {number(-api.MaxInt), "- 1125899906842624"}, {own("n"), "n"}, {other("x", "n"), "x . n"}},
		{{text(""), `""`}, {text("t"), `"t"`}, {text("when"), `"when"`}, {text("x.n#{}<="), `"x.n#{}<="`}, {own("s"), "s"}, {other("x", "s"), "x . s"}},
	} {
		for _, l := range sides {
			for _, r := range sides {
				for i, mark := range []string{"=", "/=", "<", "<="} {
					wantCondition(t, test(api.Equal+i, l.o, r.o), l.s+" "+mark+" "+r.s)
				}
			}
		}
	}
	wantText(t, read(t, "type a { n : int } rule r { when x : a [ n > 1 and n >= - 2 and - 0 = n ] ; }"), tight("type a { n : int } rule r { when x : a [ 1 < n and - 2 <= n and 0 = n ] ; }"))
}

// TestBrackets: P7.5: each place where brackets stand, and each where none do.
func TestBrackets(t *testing.T) {
	c := func(n int) api.Condition { return test(api.Equal, own("n"), number(n)) }
	and := func(l ...api.Condition) api.Condition { return group(api.And, l...) }
	or := func(l ...api.Condition) api.Condition { return group(api.Or, l...) }
	not := func(x api.Condition) api.Condition { return group(api.Not, x) }
	one, two, three, four := c(1), c(2), c(3), c(4)
	for _, c := range []struct {
		c api.Condition
		s string
	}{
		{one, "1"},
		{and(one, two), "1 and 2"},
		{or(one, two), "1 or 2"},
		{not(one), "not 1"},
		{not(not(one)), "not not 1"},
		{not(and(one, two)), "not ( 1 and 2 )"},
		{not(or(one, two)), "not ( 1 or 2 )"},
		{not(not(or(one, two))), "not not ( 1 or 2 )"},
		{or(or(one, two), three, four), "( 1 or 2 ) or 3 or 4"},
		{or(one, or(two, three), four), "1 or ( 2 or 3 ) or 4"},
		{or(one, two, or(three, four)), "1 or 2 or ( 3 or 4 )"},
		{and(or(one, two), three, four), "( 1 or 2 ) and 3 and 4"},
		{and(one, or(two, three), four), "1 and ( 2 or 3 ) and 4"},
		{and(one, two, or(three, four)), "1 and 2 and ( 3 or 4 )"},
		{and(and(one, two), three, four), "( 1 and 2 ) and 3 and 4"},
		{and(one, and(two, three), four), "1 and ( 2 and 3 ) and 4"},
		{and(one, two, and(three, four)), "1 and 2 and ( 3 and 4 )"},
		{or(and(one, two), three, four), "1 and 2 or 3 or 4"},
		{or(one, and(two, three), four), "1 or 2 and 3 or 4"},
		{or(one, two, and(three, four)), "1 or 2 or 3 and 4"},
		{or(not(one), not(not(two)), three), "not 1 or not not 2 or 3"},
		{and(one, not(two), not(not(three))), "1 and not 2 and not not 3"},
		{or(and(or(one, two), three), four), "( 1 or 2 ) and 3 or 4"},
		{and(or(and(one, two), three), four), "( 1 and 2 or 3 ) and 4"},
		{or(or(or(one, two), three), four), "( ( 1 or 2 ) or 3 ) or 4"},
		{not(and(one, not(or(two, and(three, four))))), "not ( 1 and not ( 2 or 3 and 4 ) )"},
		{not(or(not(one), and(two, and(three, four)))), "not ( not 1 or 2 and ( 3 and 4 ) )"},
	} {
		s := c.s
		for _, d := range []string{"1", "2", "3", "4"} {
			s = strings.ReplaceAll(s, d, "n = "+d)
		}
		wantCondition(t, c.c, s)
	}
}

// TestShowDeep: P7.5: just MaxDepth deep, with as many brackets and "not"s as there can be, it is parsed as it was.
func TestShowDeep(t *testing.T) {
	for first := range 3 {
		for second := range 3 {
			c := good(1)
			for i := range api.MaxDepth - 1 {
				kind := []int{api.And, api.Or, api.Not}[[]int{first, second}[i%2]]
				if kind == api.Not {
					c = group(kind, c)
				} else {
					c = group(kind, c, good(i))
				}
			}
			roundTrip(t, ofCondition(c))
		}
	}
}

// TestShowOptions: P7.5: each relation, with and without brackets.
func TestShowOptions(t *testing.T) {
	words := keptWords[17:]
	for i, w := range words {
		for _, c := range []struct {
			low, high int
			s         string
		}{
			{0, -1, ""},
			{0, 0, "( 0 , 0 )"},
			{0, 1, "( 0 , 1 )"},
			{1, 1, "( 1 , 1 )"},
			{1, -1, "( 1 , any )"},
			{api.MaxGap, -1, "( 1073741824 , any )"},
			{0, api.MaxGap, "( 0 , 1073741824 )"},
		} {
			b := read(t, "type a { } rule r { when x : a ; when y : a ; not u : a ; }")
			o := api.Option{Relation: i + 1, Low: c.low, High: c.high}
			plain := api.Option{Relation: 1 + (i+5)%13, High: -1}
			b.Rules[0].Links = []api.Link{
				{Left: "y", Options: []api.Option{o}, Right: "x"},
				{Left: "u", Options: []api.Option{o, plain, o}, Right: "y"},
			}
			wantText(t, b, tight("type a { } rule r { when x : a ; when y : a ; not u : a ; where y "+w+" "+c.s+" x ; where u "+w+" "+c.s+" or "+words[(i+5)%13]+" or "+w+" "+c.s+" y ; }"))
			roundTrip(t, b)
		}
	}
}

// TestEmptyWithin: P7.5: a condition that is all empty has no brackets of a pattern; the grammar has no form for it within another one, so it is refused there.
func TestEmptyWithin(t *testing.T) {
	b := ofCondition(api.Condition{})
	wantText(t, b, tight("type a { n : int , s : text } rule r { when x : a ; when y : a ; }"))
	roundTrip(t, b)
	for i, c := range around(api.Condition{})[1:] {
		if l, e := Show(ofCondition(c)); len(l) > 0 || e != api.ErrKind {
			t.Errorf("within %d: %v, %v", i+1, l, e)
		}
	}
}

// TestQuote: P7.5: a text with a double quote in it may be a constant, and is shown as it is.
func TestQuote(t *testing.T) {
	l, e := Show(ofCondition(test(api.Equal, own("s"), text("a\"b"))))
	if e != api.OK || !slices.Contains(l, api.Token{Kind: api.String, Text: "a\"b"}) {
		t.Errorf("%v, %v", l, e)
	}
}

// sized: a book that is shown as so many tokens: rules of a known size, and of their constants so many below 0 as are missing.
func sized(t *testing.T, n int) api.Book {
	t.Helper()
	b := read(t, "type a { n : int } rule last1 { when x : a ; }")
	where := group(api.And)
	for range api.MaxTests {
		where.Subs = append(where.Subs, good(1))
	}
	for i := range api.MaxRules - 1 {
		r := api.Rule{Name: fmt.Sprint("r", i)}
		for k := range api.MaxWhens {
			r.Whens = append(r.Whens, api.Pattern{Var: fmt.Sprint("x", k), Type: "a", Where: where})
		}
		b.Rules = append(b.Rules, r)
	}
	b = roomy(b) // so that no two conditions share memory
	tokens := 7 + 9 + 4*(4+3*(5+2+12*3+11))
	for i := range b.Rules {
		for k := range b.Rules[i].Whens {
			l := b.Rules[i].Whens[k].Where.Subs
			for j := range l {
				for _, o := range []*api.Operand{&l[j].Left, &l[j].Right} {
					if tokens < n {
						o.Value.Int = -1
						tokens++
					}
				}
			}
		}
	}
	if tokens != n {
		t.Fatalf("no book of %d tokens", n)
	}
	return b
}

// TestFull: P7.5: just MaxTokens tokens, and one more; what Check refuses goes ahead.
func TestFull(t *testing.T) {
	for n := api.MaxTokens - 15; n < api.MaxTokens+200; n++ {
		b := sized(t, n)
		l, e := Show(b)
		if n <= api.MaxTokens && (len(l) != n || e != api.OK) || n > api.MaxTokens && (len(l) > 0 || e != api.ErrFull) {
			t.Errorf("%d tokens: %d, %v", n, len(l), e)
		}
		want(t, fmt.Sprint(n, " tokens"), b, api.OK)
		b.Rules[api.MaxRules-1].Name = "last1"
		want(t, fmt.Sprint(n, " tokens, and a name that is taken"), b, api.ErrTwice)
	}
	roundTrip(t, sized(t, api.MaxTokens))
}

// roundTrip: what is shown may be, and is parsed as it was.
func roundTrip(t *testing.T, b api.Book) {
	t.Helper()
	l, e := Show(b)
	if e != api.OK {
		t.Fatalf("Show(%+v): %v", b, e)
	}
	got, place, e := parse.Parse(l)
	if !sameBook(got, b) || place != 0 || e != api.OK {
		s, _ := lex.Join(l)
		t.Fatalf("%s\nis parsed as %+v, %d, %v, was %+v", s, got, place, e, b)
	}
}
