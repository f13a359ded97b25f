package join

import (
	"fmt"
	"math"
	"slices"
	"strings"
	"testing"

	"dotterel/api"
	"dotterel/check"
	"dotterel/lex"
	"dotterel/parse"
	"dotterel/plan"
	"dotterel/tick"
	"dotterel/value"
)

// types of the books that are written out in the tests.
const types = "type a { n : int } type b { s : text , n : int } type c { } "

// read a book that is written out in a test.
func read(t *testing.T, s string) api.Book {
	t.Helper()
	l, place, e := lex.Cut(s)
	if e != api.OK {
		t.Fatalf("Cut(%q): %d, %v", s, place, e)
	}
	b, place, e := parse.Parse(l)
	if e != api.OK {
		t.Fatalf("Parse(%q): %d, %v", s, place, e)
	}
	return b
}

// one rule with these parts, in a book of its own.
func one(t *testing.T, parts string) api.Book {
	t.Helper()
	return read(t, types+"rule one { "+parts+" }")
}

func num(n int) api.Value { return api.Value{Kind: api.Int, Int: n} }

func text(s string) api.Value { return api.Value{Kind: api.Text, Text: s} }

// Events of the types that are written out, from a Start to an End.
func evA(number, start, end, n int) api.Event {
	return api.Event{Number: number, Type: 0, Span: api.Span{Start: start, End: end}, Values: []api.Value{num(n)}}
}

func evB(number, start, end int, s string, n int) api.Event {
	return api.Event{Number: number, Type: 1, Span: api.Span{Start: start, End: end}, Values: []api.Value{text(s), num(n)}}
}

func evC(number, start, end int) api.Event {
	return api.Event{Number: number, Type: 2, Span: api.Span{Start: start, End: end}}
}

// events: a list, told shortly.
func events(l ...api.Event) []api.Event { return l }

// came: events of these types, with Numbers from 1 on; each is just its End, so far from 0 on as its place.
func came(kinds string) []api.Event {
	var l []api.Event
	for i, k := range kinds {
		switch k {
		case 'a':
			l = append(l, evA(i+1, i, i, 0))
		case 'b':
			l = append(l, evB(i+1, i, i, "", 0))
		case 'c':
			l = append(l, evC(i+1, i, i))
		}
	}
	return l
}

// want: Tuples of the rule at a place tells these, or that error; CheckEvents says nothing else, but of the rule's place.
func want(t *testing.T, what string, b api.Book, rule int, l []api.Event, wantL [][]int, wantE api.Errno) {
	t.Helper()
	got, e := Tuples(b, rule, l)
	if e != wantE || !same(got, wantL) {
		t.Errorf("%s: rule %d of %v: %v, %v; want %v, %v", what, rule, l, got, e, wantL, wantE)
	}
	if e := CheckEvents(b, l); wantE == api.OK && e != api.OK {
		t.Errorf("%s: CheckEvents of %v: %v", what, l, e)
	}
}

// wantOne: the tuples of the first rule of a book, told as "1 2, 2 1".
func wantOne(t *testing.T, what string, b api.Book, l []api.Event, tuples string) {
	t.Helper()
	got, e := Tuples(b, 0, l)
	if s := told(got); e != api.OK || s != tuples {
		t.Errorf("%s: of %v: %s, %v; want %s", what, l, s, e, tuples)
	}
}

// wantRefused: both functions refuse events of a book, whatever the rule.
func wantRefused(t *testing.T, what string, b api.Book, l []api.Event, wantE api.Errno) {
	t.Helper()
	if e := CheckEvents(b, l); e != wantE {
		t.Errorf("%s: CheckEvents: %v, want %v", what, e, wantE)
	}
	for _, rule := range []int{0, -1, len(b.Rules), math.MaxInt} {
		want(t, what, b, rule, l, nil, wantE)
	}
}

func told(l [][]int) string {
	var out []string
	for _, x := range l {
		out = append(out, strings.Trim(fmt.Sprint(x), "[]"))
	}
	return strings.Join(out, ", ")
}

func same(a, b [][]int) bool { return slices.EqualFunc(a, b, slices.Equal[[]int]) }

// TestEventsThatMayBe: P11.1: no events; one; as many as MaxLive; Numbers with gaps, up to the greatest; Ends that are the same; Starts that go back.
func TestEventsThatMayBe(t *testing.T) {
	for what, l := range map[string][]api.Event{
		"none":                   nil,
		"none, not nil":          {},
		"one":                    events(evA(1, 0, 0, 0)),
		"one, not the first":     events(evA(7, 3, 5, 0)),
		"the greatest of all":    events(evA(api.MaxCount, api.MaxTime, api.MaxTime, api.MaxInt)),
		"several types":          events(evA(1, 0, 0, 0), evB(2, 0, 1, "s", 3), evC(3, 0, 2)),
		"gaps":                   events(evA(2, 0, 0, 0), evA(5, 1, 1, 0), evA(6, 2, 2, 0), evA(api.MaxCount-1, 3, 3, 0), evA(api.MaxCount, 4, 4, 0)),
		"Ends that are the same": events(evA(1, 3, 3, 0), evA(2, 3, 3, 0), evB(3, 3, 3, "", 0), evC(4, 3, 3)),
		"Starts that go back":    events(evA(1, 5, 5, 0), evA(2, 3, 5, 0), evA(3, 0, 6, 0), evA(4, 0, api.MaxTime, 0)),
		"as many as MaxLive":     came(strings.Repeat("abc", api.MaxLive/3)),
	} {
		for _, b := range []api.Book{read(t, types), one(t, "when x : a ; not u : c ; where u during x ;")} {
			if e := CheckEvents(b, l); e != api.OK {
				t.Errorf("%s: %v", what, e)
			}
		}
	}
	if e := CheckEvents(api.Book{}, nil); e != api.OK {
		t.Errorf("an empty book: %v", e)
	}
}

// TestTooMany: P11.1: one event more than MaxLive, and many more, whatever they are.
func TestTooMany(t *testing.T) {
	b := one(t, "when x : a ;")
	for _, n := range []int{api.MaxLive + 1, api.MaxLive + 2, 10 * api.MaxLive} {
		wantRefused(t, "too many", b, came(strings.Repeat("a", n)), api.ErrSize)
		wantRefused(t, "too many, none of which may be", b, make([]api.Event, n), api.ErrSize)
	}
	wantRefused(t, "as many as may be, none of which may be", b, make([]api.Event, api.MaxLive), api.ErrRange)
}

// spoilt event.
type spoilt struct {
	x api.Event
	e api.Errno
}

// spoiltAll: events that CheckEvent refuses, with these Numbers and Ends, where these are not what is wrong.
func spoiltAll(number, end int) []spoilt {
	with := func(e api.Errno, change func(x *api.Event)) spoilt {
		x := evB(number, 0, end, "s", 1)
		change(&x)
		return spoilt{x, e}
	}
	return []spoilt{
		with(api.ErrRange, func(x *api.Event) { x.Number = 0 }),
		with(api.ErrRange, func(x *api.Event) { x.Number = -number }),
		with(api.ErrRange, func(x *api.Event) { x.Number = api.MaxCount + 1 }),
		with(api.ErrNone, func(x *api.Event) { x.Type = -1 }),
		with(api.ErrNone, func(x *api.Event) { x.Type = 3 }),
		with(api.ErrNone, func(x *api.Event) { x.Type = math.MaxInt }),
		with(api.ErrRange, func(x *api.Event) { x.Span.Start = -1 }),
		with(api.ErrRange, func(x *api.Event) { x.Span.End = api.MaxTime + 1 }),
		with(api.ErrOrder, func(x *api.Event) { x.Span.Start = end + 1 }),
		with(api.ErrType, func(x *api.Event) { x.Values = nil }),
		with(api.ErrType, func(x *api.Event) { x.Values = append(x.Values, num(1)) }),
		with(api.ErrType, func(x *api.Event) { slices.Reverse(x.Values) }),
		with(api.ErrRange, func(x *api.Event) { x.Values[1] = num(api.MaxInt + 1) }),
		with(api.ErrSize, func(x *api.Event) { x.Values[0] = text(strings.Repeat("s", api.MaxText+1)) }),
		with(api.ErrForm, func(x *api.Event) { x.Values[0].Int = 1 }),
		with(api.ErrKind, func(x *api.Event) { x.Values[0].Kind = 3 }),
	}
}

// TestSpoiltEvents: P11.1: an event that CheckEvent refuses, the first one and each later one.
func TestSpoiltEvents(t *testing.T) {
	b := one(t, "when x : a ; when y : b ;")
	fine := came("abcab")
	for at := range fine {
		for _, s := range spoiltAll(fine[at].Number, fine[at].Span.End) {
			if e := value.CheckEvent(b.Types, s.x); e != s.e {
				t.Fatalf("CheckEvent of %v: %v, not %v", s.x, e, s.e)
			}
			l := slices.Clone(fine)
			l[at] = s.x
			wantRefused(t, fmt.Sprint("a spoilt event at ", at), b, l, s.e)
			wantRefused(t, fmt.Sprint("a spoilt event, the last one at ", at), b, l[:at+1], s.e)
		}
	}
}

// TestStates: P11.1: a Number that is that of the one ahead of it, and one below it; an End below that of the one ahead of it: at the second place and at each later one; one more is fine.
func TestStates(t *testing.T) {
	b := one(t, "when x : a ;")
	fine := came("abcab") // Numbers from 1 on, Ends from 0 on
	for i := range fine {
		fine[i].Number += 10
		fine[i].Span.End += 10
	}
	for at := 1; at < len(fine); at++ {
		ahead := fine[at-1]
		for d, wantE := range map[int]api.Errno{-10: api.ErrState, -2: api.ErrState, -1: api.ErrState, 0: api.ErrState, 1: api.OK} {
			l := slices.Clone(fine[:at+1])
			l[at].Number = ahead.Number + d
			if e := CheckEvents(b, l); e != wantE {
				t.Errorf("at %d a Number that is %d behind: %v, want %v", at, d, e, wantE)
			}
		}
		for d, wantE := range map[int]api.Errno{-5: api.ErrState, -1: api.ErrState, 0: api.OK, 1: api.OK} {
			l := slices.Clone(fine[:at+1])
			l[at].Span.Start, l[at].Span.End = 0, ahead.Span.End+d
			if e := CheckEvents(b, l); e != wantE {
				t.Errorf("at %d an End that is %d behind: %v, want %v", at, d, e, wantE)
			}
		}
	}
	// Only the one right ahead is looked at; but so no Number and no End is below that of any ahead.
	wantRefused(t, "a Number of two ahead", b, events(evA(1, 0, 0, 0), evA(2, 0, 0, 0), evA(1, 0, 0, 0)), api.ErrState)
	wantRefused(t, "in one place twice", b, slices.Repeat(events(evA(1, 0, 0, 0)), 2), api.ErrState)
	wantRefused(t, "another type", b, events(evA(2, 0, 3, 0), evC(1, 0, 3)), api.ErrState)
	wantRefused(t, "another type", b, events(evA(1, 0, 3, 0), evC(2, 0, 2)), api.ErrState)
}

// TestFirstError: P11.1, P11.3: where several errors apply, the one that is named first is told: all is wrong, and mended one after another.
func TestFirstError(t *testing.T) {
	good, bad := one(t, "when x : a ;"), one(t, "when x : a ;")
	bad.Types[0].Name = "A"
	l := came(strings.Repeat("a", api.MaxLive+1))
	l[0].Type = 9
	l[1] = evA(1, 4, 3, 0)
	l[2].Number = 1
	wantRefused(t, "all is wrong", bad, l, api.ErrForm)
	wantRefused(t, "the number of events", good, l, api.ErrSize)
	l = l[:api.MaxLive]
	wantRefused(t, "the first event", good, l, api.ErrNone)
	l[0] = evA(1, 0, 3, 0)
	wantRefused(t, "the second one: that itself may not be goes ahead of its state", good, l, api.ErrOrder)
	l[1] = evA(1, 0, 3, 0)
	l[2].Values = nil
	wantRefused(t, "its state goes ahead of what is behind it", good, l, api.ErrState)
	l[1].Number = 2
	wantRefused(t, "the third one", good, l, api.ErrType)
	l[2].Values = []api.Value{num(1)}
	wantRefused(t, "its state", good, l, api.ErrState)
	l[2].Number = 3
	wantRefused(t, "its End", good, l, api.ErrState)
	l[2].Span.End = 3
	want(t, "the rule", good, 1, l, nil, api.ErrRange)
	want(t, "nothing", good, 0, l[:2], [][]int{{1}, {2}}, api.OK)
}

// TestBooks: P11.1, P11.3: a book that Check refuses, with each error, whatever else is wrong.
func TestBooks(t *testing.T) {
	seen := map[api.Errno]bool{}
	for what, b := range map[string]api.Book{
		"types":       {Types: make([]api.Type, api.MaxTypes+1)},
		"rules":       {Rules: make([]api.Rule, api.MaxRules+1)},
		"no name":     {Types: make([]api.Type, 1)},
		"kept":        {Types: []api.Type{{Name: "when"}}},
		"kind":        {Types: []api.Type{{Name: "a", Fields: []api.Field{{Name: "n", Kind: 3}}}}},
		"twice":       read(t, "type a { } type a { }"),
		"no type":     read(t, "type a { } rule r { when x : b ; }"),
		"no whens":    {Rules: []api.Rule{{Name: "r"}}},
		"a later one": read(t, "type a { } rule r { when x : a ; } rule s { when x : b ; }"),
		"time":        read(t, "type a { } rule r { when x : a over time 2000000000 ; }"),
		"last":        read(t, "type a { } rule r { when x : a over last 0 ; }"),
		"side":        read(t, "type a { n : int } rule r { when x : a [ n = \"\" ] ; }"),
		"no other":    read(t, "type a { n : int } rule r { when x : a [ n = y . n ] ; when y : a ; }"),
		"no link":     read(t, "type a { } rule r { when x : a ; where x before y ; }"),
		"order":       read(t, "type a { } rule r { when x : a ; when y : a ; where x before ( 3 , 2 ) y ; }"),
		"endless":     read(t, "type a { } rule r { when x : a ; emit a ( ) ; }"),
	} {
		e := check.Check(b)
		if e == api.OK {
			t.Errorf("%s: not refused", what)
		}
		seen[e] = true
		for _, l := range [][]api.Event{nil, events(api.Event{Number: 1}), make([]api.Event, 1), make([]api.Event, api.MaxLive+1)} {
			wantRefused(t, what, b, l, e)
		}
	}
	for _, e := range []api.Errno{api.ErrSize, api.ErrRange, api.ErrKind, api.ErrForm, api.ErrNone, api.ErrTwice, api.ErrType, api.ErrOrder, api.ErrEndless} {
		if !seen[e] {
			t.Errorf("no book is refused with %v", e)
		}
	}
}

// TestRules: P11.3: each rule of as many as may be has its own tuples; a rule that there is not, below and above.
func TestRules(t *testing.T) {
	s := types
	for i := range api.MaxRules {
		s += fmt.Sprint("rule r", i, " { when x : a [ n = ", i, " ] ; } ")
	}
	b := read(t, s)
	var l []api.Event
	for i := range api.MaxRules {
		l = append(l, evA(10+i, 0, 0, i))
	}
	for i := range api.MaxRules {
		want(t, "a rule", b, i, l, [][]int{{10 + i}}, api.OK)
	}
	for n := range api.MaxRules + 1 {
		b.Rules = b.Rules[:api.MaxRules-n]
		for _, rule := range []int{-1, -2, math.MinInt, len(b.Rules), len(b.Rules) + 1, 1 << 32, math.MaxInt} {
			want(t, "no rule", b, rule, l, nil, api.ErrRange)
			want(t, "no rule, no events", b, rule, nil, nil, api.ErrRange)
		}
		b.Rules = b.Rules[:api.MaxRules]
	}
	want(t, "nothing at all", api.Book{}, 0, nil, nil, api.ErrRange)
}

// TestOneWhen: P11.2, P11.3: a rule of one when: the events that it takes, each alone.
func TestOneWhen(t *testing.T) {
	l := events(evA(2, 0, 0, 3), evB(3, 0, 1, "s", 3), evA(5, 1, 1, 4), evC(6, 1, 2), evA(8, 0, 9, 3), evB(9, 0, 9, "t", 3))
	for parts, tuples := range map[string]string{
		"when x : a ;":                           "2, 5, 8",
		"when x : b ;":                           "3, 9",
		"when x : c ;":                           "6",
		"when x : a [ n = 3 ] ;":                 "2, 8",
		"when x : a [ n > 3 ] ;":                 "5",
		"when x : a [ n > 4 ] ;":                 "",
		`when x : b [ s = "t" and not n < 3 ] ;`: "9",
		// Behind the event of the tuple that came last, which is its own one, nothing is counted.
		"when x : a over time 0 ;":           "2, 5, 8",
		"when x : a over last 1 ;":           "2, 5, 8",
		"when x : a [ n = 3 ] over last 1 ;": "2, 8",
	} {
		wantOne(t, parts, one(t, parts), l, tuples)
	}
	for _, kind := range []string{"a", "b", "c"} {
		wantOne(t, "no events", one(t, "when x : "+kind+" ;"), nil, "")
		wantOne(t, "no events, not nil", one(t, "when x : "+kind+" ;"), events(), "")
	}
}

// TestTwoWhens: P11.2, P11.3: whens of one type have each pair of events either way round, but no event twice; whens of two types one each.
func TestTwoWhens(t *testing.T) {
	wantOne(t, "one type", one(t, "when x : a ; when y : a ;"), came("a"), "")
	wantOne(t, "one type", one(t, "when x : a ; when y : a ;"), came("aa"), "1 2, 2 1")
	wantOne(t, "one type", one(t, "when x : a ; when y : a ;"), came("aba"), "1 3, 3 1")
	wantOne(t, "one type", one(t, "when x : a ; when y : a ;"), came("aaa"), "1 2, 1 3, 2 1, 2 3, 3 1, 3 2")
	wantOne(t, "two types", one(t, "when x : a ; when y : b ;"), came("abab"), "1 2, 1 4, 3 2, 3 4")
	wantOne(t, "two types, the other way", one(t, "when x : b ; when y : a ;"), came("abab"), "2 1, 2 3, 4 1, 4 3")
	wantOne(t, "one is missing", one(t, "when x : a ; when y : b ;"), came("aaca"), "")
	wantOne(t, "the other one is missing", one(t, "when x : a ; when y : b ;"), came("bcb"), "")
	// An event that both whens would take is in no tuple with itself.
	l := events(evA(1, 0, 0, 1), evA(2, 0, 0, 2), evA(3, 0, 0, 3))
	wantOne(t, "conditions", one(t, "when x : a [ n < 3 ] ; when y : a [ n > 1 ] ;"), l, "1 2, 1 3, 2 3")
	wantOne(t, "the same condition", one(t, "when x : a [ n = 2 ] ; when y : a [ n = 2 ] ;"), l, "")
}

// TestThreeWhens: P11.2, P11.3: of one type and of several.
func TestThreeWhens(t *testing.T) {
	three := one(t, "when x : a ; when y : a ; when z : a ;")
	wantOne(t, "two events", three, came("aa"), "")
	wantOne(t, "three events", three, came("aaa"), "1 2 3, 1 3 2, 2 1 3, 2 3 1, 3 1 2, 3 2 1")
	wantOne(t, "two types", one(t, "when x : a ; when y : b ; when z : a ;"), came("abab"), "1 2 3, 1 4 3, 3 2 1, 3 4 1")
	wantOne(t, "three types", one(t, "when x : c ; when y : a ; when z : b ;"), came("abcba"), "3 1 2, 3 1 4, 3 5 2, 3 5 4")
	wantOne(t, "the last one is missing", one(t, "when x : c ; when y : a ; when z : b ;"), came("aca"), "")
}

// TestConditions: P11.2: conditions of a when on the events of those ahead of it.
func TestConditions(t *testing.T) {
	l := events(evA(1, 0, 0, 1), evB(2, 0, 0, "", 2), evA(3, 0, 0, 2), evB(4, 0, 0, "", 1), evA(5, 0, 0, 3))
	for parts, tuples := range map[string]string{
		"when x : a ; when y : b [ n = x . n ] ;":                                  "1 4, 3 2",
		"when x : a ; when y : b [ n /= x . n ] ;":                                 "1 2, 3 4, 5 2, 5 4",
		"when x : b ; when y : a [ n = x . n ] ;":                                  "2 3, 4 1",
		"when x : a ; when y : a [ x . n < n ] ;":                                  "1 3, 1 5, 3 5",
		"when x : a ; when y : a [ n < x . n ] ;":                                  "3 1, 5 1, 5 3",
		"when x : a [ n > 1 ] ; when y : a [ n = 1 or n > x . n ] ;":               "3 1, 3 5, 5 1",
		"when x : a ; when y : b ; when z : a [ n > x . n and n > y . n ] ;":       "1 2 5, 1 4 3, 1 4 5, 3 2 5, 3 4 5",
		"when x : a ; when y : b [ n = x . n ] ; when z : a [ n > y . n ] ;":       "1 4 3, 1 4 5, 3 2 5",
		"when x : a ; when y : a ; when z : b [ x . n < y . n and n = x . n ] ;":   "1 3 4, 1 5 4, 3 5 2",
		"when x : a ; when y : a ; when z : b [ n = y . n ] ;":                     "1 3 2, 3 1 4, 5 1 4, 5 3 2",
		"when x : a ; when y : a [ n > x . n ] ; when z : a [ n < y . n ] ;":       "1 5 3, 3 5 1",
		"when x : a ; when y : a [ n > x . n ] ; when z : a [ not n <= y . n ] ;":  "1 3 5",
		"when x : b ; when y : b [ x . n < n ] ; when z : a [ n < x . n ] ;":       "",
		"when x : b ; when y : b [ x . n > n ] ; when z : a [ n > x . n ] ;":       "2 4 5",
		"when x : a [ n = 3 ] ; when y : a [ n = 2 ] ; when z : a [ n = y . n ] ;": "",
	} {
		wantOne(t, parts, one(t, parts), l, tuples)
	}
}

// words of the relations, by their numbers.
var words = []string{"", "before", "after", "meets", "metby", "overlaps", "overlapped", "starts", "startedby", "during", "contains", "finishes", "finishedby", "equals"}

// TestRelations: P11.2: a link by each relation, either way round, of spans of which each relation holds: of the link's left one to its right one.
func TestRelations(t *testing.T) {
	held := map[int]bool{}
	x := api.Span{Start: 5, End: 10}
	for start := range 16 {
		for end := start; end < 16; end++ {
			y := api.Span{Start: start, End: end}
			l := events(evA(1, x.Start, x.End, 0), evB(2, y.Start, y.End, "", 0))
			a, b := 1, 2
			if y.End < x.End {
				l = events(evB(1, y.Start, y.End, "", 0), evA(2, x.Start, x.End, 0))
				a, b = 2, 1
			}
			for k := api.Before; k <= api.Equals; k++ {
				holds, _ := tick.Holds(k, x, y)
				back, _ := tick.Holds(k, y, x)
				held[k] = held[k] || holds
				wantLink(t, "when x : a ; when y : b ; where x "+words[k]+" y ;", l, holds, a, b)
				wantLink(t, "when y : b ; when x : a ; where x "+words[k]+" y ;", l, holds, b, a)
				wantLink(t, "when x : a ; when y : b ; where y "+words[k]+" x ;", l, back, a, b)
				wantLink(t, "when y : b ; when x : a ; where y "+words[k]+" x ;", l, back, b, a)
			}
		}
	}
	for k := api.Before; k <= api.Equals; k++ {
		if !held[k] {
			t.Errorf("%s never held", words[k])
		}
	}
}

// wantLink: where it holds, this one tuple, else none.
func wantLink(t *testing.T, parts string, l []api.Event, holds bool, tuple ...int) {
	t.Helper()
	tuples := ""
	if holds {
		tuples = told([][]int{tuple})
	}
	wantOne(t, parts, one(t, parts), l, tuples)
}

// TestDistances: P11.2: an option's Low and High, just at them and one beyond.
func TestDistances(t *testing.T) {
	l := events(evA(1, 0, 10, 0), evB(2, 12, 20, "", 0), evB(3, 13, 20, "", 0), evB(4, 14, 20, "", 0), evB(5, 15, 20, "", 0), evB(6, 16, 20, "", 0))
	for option, tuples := range map[string]string{
		"before":             "1 2, 1 3, 1 4, 1 5, 1 6",
		"before ( 3 , 5 )":   "1 3, 1 4, 1 5",
		"before ( 4 , 4 )":   "1 4",
		"before ( 4 , any )": "1 4, 1 5, 1 6",
		"before ( 0 , 3 )":   "1 2, 1 3",
		"before ( 7 , any )": "",
		"before ( 0 , 1 )":   "",
		"before ( 0 , 0 )":   "",
	} {
		wantOne(t, option, one(t, "when x : a ; when y : b ; where x "+option+" y ;"), l, tuples)
		after := strings.Replace(option, "before", "after", 1)
		wantOne(t, after, one(t, "when x : a ; when y : b ; where y "+after+" x ;"), l, tuples)
		wantOne(t, option+" turned", one(t, "when x : a ; when y : b ; where y "+option+" x ;"), l, "")
	}
	// An option of greatest bounds.
	far := events(evA(1, 0, 0, 0), evB(2, api.MaxGap, api.MaxGap, "", 0), evB(3, api.MaxGap+1, api.MaxGap+1, "", 0))
	wantOne(t, "far", one(t, "when x : a ; when y : b ; where x before ( 0 , 1073741824 ) y ;"), far, "1 2")
	wantOne(t, "far", one(t, "when x : a ; when y : b ; where x before ( 1073741824 , any ) y ;"), far, "1 2, 1 3")
}

// TestSeveral: P11.2: of one link one option is enough; of several links each is asked.
func TestSeveral(t *testing.T) {
	l := events(evA(1, 0, 4, 0), evB(2, 0, 4, "", 0), evB(3, 2, 5, "", 0), evB(4, 4, 6, "", 0), evB(5, 7, 7, "", 0), evB(6, 9, 9, "", 0))
	for links, tuples := range map[string]string{
		"where x equals y ;":                                              "1 2",
		"where x overlaps y ;":                                            "1 3",
		"where x meets y ;":                                               "1 4",
		"where x before y ;":                                              "1 5, 1 6",
		"where x equals or meets y ;":                                     "1 2, 1 4",
		"where x meets or equals or overlaps y ;":                         "1 2, 1 3, 1 4",
		"where x before ( 0 , 3 ) or before ( 5 , 9 ) y ;":                "1 5, 1 6",
		"where x before ( 0 , 2 ) or before ( 4 , 4 ) or equals y ;":      "1 2",
		"where x before y ; where x before ( 4 , any ) y ;":               "1 6",
		"where x before y ; where y after ( 0 , 4 ) x ;":                  "1 5",
		"where x equals y ; where x before y ;":                           "",
		"where x before or meets y ; where y metby or overlapped x ;":     "1 4",
		"where x after or during or starts or startedby or metby y ;":     "",
		"where x before or meets or overlaps or equals y ;":               "1 2, 1 3, 1 4, 1 5, 1 6",
		"where x after or during or starts or metby or contains y ;":      "",
		"where x after or after or after or after or after or equals y ;": "1 2",
	} {
		wantOne(t, links, one(t, "when x : a ; when y : b ; "+links), l, tuples)
	}
	full := "when x : a ; when y : b ;" + strings.Repeat("where x before ( 3 , any ) y ;", api.MaxLinks-1)
	wantOne(t, "as many as may be, the last one", one(t, full+"where y after ( 0 , 4 ) x ;"), l, "1 5")
	wantOne(t, "as many as may be, the last one", one(t, full+"where x equals y ;"), l, "")
}

// TestLinksOfThree: P11.2: links between any two of three whens, in either order.
func TestLinksOfThree(t *testing.T) {
	l := events(evA(1, 0, 0, 0), evA(2, 2, 2, 0), evA(3, 5, 5, 0), evA(4, 9, 9, 0))
	whens := "when x : a ; when y : a ; when z : a ; "
	for links, tuples := range map[string]string{
		"where x before y ; where y before z ;":                    "1 2 3, 1 2 4, 1 3 4, 2 3 4",
		"where z before y ; where y before x ;":                    "3 2 1, 4 2 1, 4 3 1, 4 3 2",
		"where x before z ; where z before y ;":                    "1 3 2, 1 4 2, 1 4 3, 2 4 3",
		"where x after z ; where z after y ;":                      "3 1 2, 4 1 2, 4 1 3, 4 2 3",
		"where x before ( 0 , 2 ) y ; where x after ( 9 , 9 ) z ;": "",
		"where y before ( 3 , 3 ) z ;":                             "1 2 3, 4 2 3",
		"where z after ( 3 , 3 ) y ;":                              "1 2 3, 4 2 3",
		"where x before ( 9 , any ) z ;":                           "1 2 4, 1 3 4",
		"where z after ( 9 , any ) x ;":                            "1 2 4, 1 3 4",
		"where x after ( 9 , any ) z ;":                            "4 2 1, 4 3 1",
		"where x before ( 3 , 3 ) y ;":                             "2 3 1, 2 3 4",
		"where y after ( 3 , 3 ) x ; where z after ( 4 , 4 ) y ;":  "2 3 4",
		"where x equals y ;":                                       "",
		"where y equals z ;":                                       "",
		"where x equals z ;":                                       "",
	} {
		wantOne(t, links, one(t, whens+links), l, tuples)
	}
}

// TestNots: P11.2: neither nots nor manies, nor links that speak of a not, nor an emit, nor whether the rule can ever be, nor how long it waits, are asked.
func TestNots(t *testing.T) {
	l := came("abcab")
	tuples := "1 2, 1 5, 4 2, 4 5"
	for parts, wantE := range map[string]api.Errno{
		"not u : a ;": api.ErrEndless,
		"not u : a ; where u equals x ; where x equals u ;":                                api.OK,
		"not u : c ; where u during y ; where x before ( 9 , 9 ) u ;":                      api.OK,
		"not u : b ; not v : a ; where u equals x ; where y equals v ; where v equals x ;": api.OK,
		"many 120 p : a within 0 ;":                                                        api.OK,
		"many 9 of n p : a within 0 ; many 1 q : c [ 1 = 2 ] within 3 ;":                   api.OK,
		"emit c ( ) ;": api.OK,
		"not u : a ; where u meets ( 1 , 1 ) y ; where x finishes ( 0 , 0 ) u ;":                   api.OK,
		"not u : b [ n = y . n ] ; where u before or equals x ; many 2 p : a [ n = 1 ] within 0 ;": api.OK,
	} {
		b := one(t, "when x : a ; when y : b ; "+parts)
		if _, e := plan.Rule(b, 0); e != wantE {
			t.Fatalf("%s: the plan: %v", parts, e)
		}
		wantOne(t, parts, b, l, tuples)
	}
	// With a link between whens beside them, that one is asked alone.
	wantOne(t, "beside", one(t, "when x : a ; when y : b ; not u : c ; where u equals x ; where y before x ; where y equals u ;"), l, "4 2")
	// A rule that can never be has no tuples, but is not refused.
	never := one(t, "when x : a ; when y : b ; where x meets ( 1 , 2 ) y ;")
	if _, e := plan.Rule(never, 0); e != api.ErrNever {
		t.Fatal(e)
	}
	wantOne(t, "never", never, l, "")
}

// TestTime: P11.2: an End just N ahead of the tuple's latest End, and one more, of the first, of a later and of several whens.
func TestTime(t *testing.T) {
	l := events(evA(1, 0, 0, 0), evA(2, 0, 3, 0), evB(3, 0, 5, "", 0), evA(4, 4, 7, 0), evB(5, 0, 8, "", 0), evC(6, 9, 9))
	for parts, tuples := range map[string]string{
		"when x : a over time 0 ; when y : b ;":             "4 3",
		"when x : a over time 1 ; when y : b ;":             "4 3, 4 5",
		"when x : a over time 2 ; when y : b ;":             "2 3, 4 3, 4 5",
		"when x : a over time 4 ; when y : b ;":             "2 3, 4 3, 4 5",
		"when x : a over time 5 ; when y : b ;":             "1 3, 2 3, 2 5, 4 3, 4 5",
		"when x : a over time 7 ; when y : b ;":             "1 3, 2 3, 2 5, 4 3, 4 5",
		"when x : a over time 8 ; when y : b ;":             "1 3, 1 5, 2 3, 2 5, 4 3, 4 5",
		"when x : a ; when y : b over time 0 ;":             "1 3, 1 5, 2 3, 2 5, 4 5",
		"when x : a ; when y : b over time 1 ;":             "1 3, 1 5, 2 3, 2 5, 4 5",
		"when x : a ; when y : b over time 2 ;":             "1 3, 1 5, 2 3, 2 5, 4 3, 4 5",
		"when x : b over time 1 ; when y : a ;":             "3 1, 3 2, 5 1, 5 2, 5 4",
		"when x : b ; when y : a over time 4 ;":             "3 2, 3 4, 5 4",
		"when x : a over time 5 ; when y : b over time 1 ;": "1 3, 2 3, 2 5, 4 5",
		"when x : a over time 1 ; when y : b over time 1 ;": "4 5",
		"when x : a over time 0 ; when y : b over time 0 ;": "",
		// The latest End may be that of any when, one ahead or one behind.
		"when x : a over time 9 ; when y : b over time 1 ; when z : c over time 0 ;": "1 5 6, 2 5 6, 4 5 6",
		"when x : a over time 6 ; when y : b over time 4 ; when z : c ;":             "2 3 6, 2 5 6, 4 3 6, 4 5 6",
		"when x : a over time 6 ; when y : b over time 3 ; when z : c ;":             "2 5 6, 4 5 6",
		"when x : c ; when y : a over time 8 ; when z : b over time 1 ;":             "6 2 5, 6 4 5",
		"when x : c ; when y : a over time 5 ; when z : b ;":                         "6 4 3, 6 4 5",
		"when x : a over time 3 ; when y : a over time 0 ; when z : b over time 2 ;": "",
		"when x : a over time 4 ; when y : a over time 0 ; when z : b over time 2 ;": "2 4 3",
	} {
		wantOne(t, parts, one(t, parts), l, tuples)
	}
	// It is the End that counts, not the Start; and the greatest N.
	far := events(evA(1, 0, 0, 0), evA(2, 0, api.MaxGap, 0), evA(3, 0, api.MaxGap+1, 0))
	wantOne(t, "the greatest N", one(t, "when x : a over time 1073741824 ; when y : a over time 0 ;"), far, "1 2, 2 3")
	ends := events(evA(1, 0, 0, 0), evA(2, 0, api.MaxTime, 0))
	wantOne(t, "all of time", one(t, "when x : a over time 1073741824 ; when y : a ;"), ends, "2 1")
}

// TestEndsAlike: P11.2: events whose End is that of the one ahead of them are all in a window of 0, whichever came first.
func TestEndsAlike(t *testing.T) {
	l := events(evA(1, 0, 2, 0), evA(2, 2, 2, 0), evB(3, 1, 2, "", 0), evA(4, 3, 3, 0))
	wantOne(t, "time", one(t, "when x : a over time 0 ; when y : b over time 0 ;"), l, "1 3, 2 3")
	wantOne(t, "time", one(t, "when x : a over time 0 ; when y : a over time 0 ;"), l, "1 2, 2 1")
	// By their Ends they are alike, but one came behind the other.
	wantOne(t, "last", one(t, "when x : a over last 1 ; when y : b ;"), l, "2 3, 4 3")
	wantOne(t, "last", one(t, "when x : a over last 1 ; when y : a ;"), l, "2 1, 4 1, 4 2")
	wantOne(t, "last", one(t, "when x : a ; when y : a over last 1 ;"), l, "1 2, 1 4, 2 4")
	wantOne(t, "last", one(t, "when x : a over last 2 ; when y : a over last 2 ;"), l, "1 2, 2 1, 2 4, 4 2")
}

// TestLast: P11.2: just N - 1 and just N events of its type behind an event, up to that of the tuple that came last; of the first, of a later and of several whens.
func TestLast(t *testing.T) {
	l := came("aabaaba")
	for parts, tuples := range map[string]string{
		"when x : a over last 1 ; when y : b ;":             "2 3, 4 3, 5 3, 5 6, 7 3, 7 6",
		"when x : a over last 2 ; when y : b ;":             "1 3, 2 3, 4 3, 4 6, 5 3, 5 6, 7 3, 7 6",
		"when x : a over last 3 ; when y : b ;":             "1 3, 2 3, 2 6, 4 3, 4 6, 5 3, 5 6, 7 3, 7 6",
		"when x : a over last 4 ; when y : b ;":             "1 3, 1 6, 2 3, 2 6, 4 3, 4 6, 5 3, 5 6, 7 3, 7 6",
		"when x : a ; when y : b over last 1 ;":             "1 3, 1 6, 2 3, 2 6, 4 3, 4 6, 5 3, 5 6, 7 6",
		"when x : a ; when y : b over last 2 ;":             "1 3, 1 6, 2 3, 2 6, 4 3, 4 6, 5 3, 5 6, 7 3, 7 6",
		"when x : b over last 1 ; when y : a ;":             "3 1, 3 2, 3 4, 3 5, 6 1, 6 2, 6 4, 6 5, 6 7",
		"when x : b ; when y : a over last 1 ;":             "3 2, 3 4, 3 5, 3 7, 6 5, 6 7",
		"when x : a over last 1 ; when y : b over last 1 ;": "2 3, 4 3, 5 3, 5 6, 7 6",
		"when x : b over last 1 ; when y : b ;":             "6 3",
		"when x : b over last 2 ; when y : b over last 1 ;": "3 6",
		"when x : b over last 1 ; when y : b over last 1 ;": "",
		"when x : a over last 2 ; when y : a over last 1 ;": "1 2, 2 4, 4 5, 5 7",
		"when x : a over last 1 ; when y : a over last 2 ;": "2 1, 4 2, 5 4, 7 5",
		// The event that came last may be that of any when.
		"when x : a over last 1 ; when y : a over last 2 ; when z : b ;":             "2 1 3, 4 2 3, 5 4 3, 5 4 6, 7 5 3, 7 5 6",
		"when x : a over last 1 ; when y : b ; when z : b over last 1 ;":             "5 3 6, 7 3 6",
		"when x : b over last 2 ; when y : b ; when z : a over last 1 ;":             "3 6 5, 3 6 7, 6 3 5, 6 3 7",
		"when x : b over last 1 ; when y : b over last 2 ; when z : a over last 1 ;": "6 3 5, 6 3 7",
		"when x : a over last 3 ; when y : a over last 2 ; when z : a over last 1 ;": "1 2 4, 2 4 5, 4 5 7",
	} {
		wantOne(t, parts, one(t, parts), l, tuples)
	}
}

// TestCounted: P11.2: all events of its type are counted, those that the when takes and those that it does not; those of other types are not.
func TestCounted(t *testing.T) {
	l := events(evA(1, 0, 0, 7), evA(2, 0, 0, 0), evB(3, 0, 0, "", 0), evB(4, 0, 0, "", 0), evC(5, 0, 0), evA(6, 0, 0, 7), evC(7, 0, 0))
	for parts, tuples := range map[string]string{
		"when x : a [ n = 7 ] over last 1 ; when y : c ;":          "6 5, 6 7",
		"when x : a [ n = 7 ] over last 2 ; when y : c ;":          "1 5, 6 5, 6 7",
		"when x : a [ n = 7 ] over last 3 ; when y : c ;":          "1 5, 1 7, 6 5, 6 7",
		"when x : a [ n = 0 ] over last 1 ; when y : b ;":          "2 3, 2 4",
		"when x : a [ n = 0 ] over last 1 ; when y : c ;":          "2 5",
		"when x : a [ n = 7 ] over last 1 ; when y : a ;":          "6 1, 6 2",
		"when x : a [ n = 7 ] over last 2 ; when y : a ;":          "1 2, 6 1, 6 2",
		"when x : a ; when y : b [ n = 0 ] over last 1 ;":          "1 3, 1 4, 2 3, 2 4, 6 4",
		"when x : a ; when y : b over last 2 ;":                    "1 3, 1 4, 2 3, 2 4, 6 3, 6 4",
		"when x : a over last 1 ; when y : b ; where x equals y ;": "2 3, 2 4, 6 3, 6 4",
	} {
		wantOne(t, parts, one(t, parts), l, tuples)
	}
	// Gaps between Numbers are not events.
	wantOne(t, "gaps", one(t, "when x : a over last 2 ; when y : a ;"), events(evA(1, 0, 0, 0), evA(50, 0, 0, 0), evA(900, 0, 0, 0)), "1 50, 50 1, 50 900, 900 1, 900 50")
}

// TestMixed: P11.2: windows of time and of so many in one rule, with links and conditions.
func TestMixed(t *testing.T) {
	l := events(evA(1, 0, 1, 1), evB(2, 0, 2, "", 1), evA(3, 2, 3, 2), evB(4, 4, 4, "", 2), evA(5, 4, 5, 1))
	for parts, tuples := range map[string]string{
		"when x : a over time 1 ; when y : b over last 1 ;":                                     "1 2, 3 2, 3 4, 5 4",
		"when x : a over last 1 ; when y : b over time 1 ;":                                     "1 2, 3 2, 3 4, 5 4",
		"when x : a over time 3 ; when y : b over last 1 ;":                                     "1 2, 1 4, 3 2, 3 4, 5 4",
		"when x : a over time 3 ; when y : b [ n = x . n ] over last 1 ;":                       "1 2, 3 4",
		"when x : a over last 2 ; when y : b [ n = x . n ] ; where x before y ;":                "3 4",
		"when x : a over last 2 ; when y : b [ n = x . n ] ; where x before or overlaps y ;":    "3 4",
		"when x : a over last 3 ; when y : b [ n = x . n ] ; where x before or starts y ;":      "1 2, 3 4",
		"when x : a over time 4 ; when y : b over time 3 ; when z : a over last 1 ;":            "1 2 3, 1 2 5, 1 4 3, 1 4 5, 3 2 5, 3 4 5",
		"when x : a over time 4 ; when y : b over last 1 ; when z : a over last 1 ;":            "1 2 3, 1 4 3, 1 4 5, 3 4 5",
		"when x : a over last 2 ; when y : b over time 3 ; when z : a [ n = x . n ] ;":          "5 2 1, 5 4 1",
		"when x : a over last 3 ; when y : b over time 1 ; when z : a [ n = x . n ] ;":          "1 4 5, 5 4 1",
		"when x : a over time 3 ; when y : b [ n = x . n ] ; when z : a ; where y before z ;":   "",
		"when x : a over time 4 ; when y : b [ n = x . n ] ; when z : a ; where y before z ;":   "1 2 5",
		"when x : a ; when y : b [ n = x . n ] over time 1 ; when z : a ; where y before z ;":   "",
		"when x : a ; when y : b [ n = x . n ] over time 1 ; when z : a ; where y overlaps z ;": "",
		"when x : a ; when y : b [ n = x . n ] over time 1 ; when z : a ; where y starts z ;":   "3 4 5",
	} {
		wantOne(t, parts, one(t, parts), l, tuples)
	}
}
