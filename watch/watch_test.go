package watch

import (
	"fmt"
	"math"
	"slices"
	"strings"
	"testing"

	"dotterel/api"
	"dotterel/check"
	"dotterel/join"
	"dotterel/lex"
	"dotterel/parse"
	"dotterel/plan"
	"dotterel/tick"
	"dotterel/value"
)

// types of the books that are written out in the tests.
const types = "type a { n : int } type b { s : text , n : int } type c { } "

// read a book that is written out in a test.
func read(t *testing.T, s string) api.Book {
	t.Helper()
	l, place, e := lex.Cut(s)
	if e != api.OK {
		t.Fatalf("Cut(%q): %d, %v", s, place, e)
	}
	b, place, e := parse.Parse(l)
	if e != api.OK {
		t.Fatalf("Parse(%q): %d, %v", s, place, e)
	}
	return b
}

// one rule with these parts, in a book of its own.
func one(t *testing.T, parts string) api.Book {
	t.Helper()
	return read(t, types+"rule one { "+parts+" }")
}

func num(n int) api.Value { return api.Value{Kind: api.Int, Int: n} }

func text(s string) api.Value { return api.Value{Kind: api.Text, Text: s} }

// Events of the types that are written out, from a Start to an End.
func evA(number, start, end, n int) api.Event {
	return api.Event{Number: number, Type: 0, Span: api.Span{Start: start, End: end}, Values: []api.Value{num(n)}}
}

func evB(number, start, end int, s string, n int) api.Event {
	return api.Event{Number: number, Type: 1, Span: api.Span{Start: start, End: end}, Values: []api.Value{text(s), num(n)}}
}

func evC(number, start, end int) api.Event {
	return api.Event{Number: number, Type: 2, Span: api.Span{Start: start, End: end}}
}

// events: a list, told shortly.
func events(l ...api.Event) []api.Event { return l }

// came: events, in the order of their Ends, with Numbers from 1 on.
func came(l ...api.Event) []api.Event {
	out := slices.Clone(l)
	slices.SortStableFunc(out, func(x, y api.Event) int { return x.Span.End - y.Span.End })
	for i := range out {
		out[i].Number = i + 1
	}
	return out
}

// of: the events with these Numbers.
func of(l []api.Event, numbers ...int) []api.Event {
	var out []api.Event
	for _, n := range numbers {
		out = append(out, l[slices.IndexFunc(l, func(x api.Event) bool { return x.Number == n })])
	}
	return out
}

// ofType: the events of the type at a place.
func ofType(l []api.Event, kind int) []api.Event {
	return slices.DeleteFunc(slices.Clone(l), func(x api.Event) bool { return x.Type != kind })
}

// want: Fires of the rule at a place answers this.
func want(t *testing.T, what string, b api.Book, rule int, tuple, l []api.Event, wantOk bool, wantE api.Errno) {
	t.Helper()
	if ok, e := Fires(b, rule, tuple, l); ok != wantOk || e != wantE {
		t.Errorf("%s: rule %d, %v of %v: %v, %v; want %v, %v", what, rule, tuple, l, ok, e, wantOk, wantE)
	}
}

// wantOne: whether a tuple of a book's first rule is fired.
func wantOne(t *testing.T, what string, b api.Book, tuple, l []api.Event, fires bool) {
	t.Helper()
	want(t, what, b, 0, tuple, l, fires, api.OK)
}

// wantFired: of all tuples of the first rule (P11.2), just these are fired, told as "1 2, 2 1".
func wantFired(t *testing.T, what string, b api.Book, l []api.Event, fired string) {
	t.Helper()
	tuples, e := join.Tuples(b, 0, l)
	if e != api.OK {
		t.Fatalf("%s: Tuples: %v", what, e)
	}
	var out []string
	for _, numbers := range tuples {
		ok, e := Fires(b, 0, of(l, numbers...), l)
		if e != api.OK {
			t.Errorf("%s: %v: %v", what, numbers, e)
		}
		if ok {
			out = append(out, strings.Trim(fmt.Sprint(numbers), "[]"))
		}
	}
	if got := strings.Join(out, ", "); got != fired {
		t.Errorf("%s: of %v: fired %s; want %s", what, l, got, fired)
	}
}

// TestPlain: P12.1: without a not and a many each tuple is fired, whatever came; an emit says nothing of it.
func TestPlain(t *testing.T) {
	l := events(evA(1, 0, 0, 3), evB(2, 0, 1, "s", 3), evC(3, 0, 2), evA(4, 2, 3, 4))
	for parts, fired := range map[string]string{
		"when x : a ;":                                      "1, 4",
		"when x : a [ n = 3 ] ;":                            "1",
		"when x : b ; emit c ( ) ;":                         "2",
		"when x : a ; when y : a ;":                         "1 4, 4 1",
		"when x : a ; when y : a ; where x before y ;":      "1 4",
		"when x : c ; when y : a ; when z : b ;":            "3 1 2, 3 4 2",
		"when x : a over last 1 ; when y : c ;":             "1 3, 4 3",
		"when x : a over time 2 ; when y : b over time 1 ;": "1 2",
	} {
		wantFired(t, parts, one(t, parts), l, fired)
	}
}

// TestNoEvents: P12.1: where there are no events, nothing blocks; no many has one, and a sum of none is 0.
func TestNoEvents(t *testing.T) {
	for parts, fires := range map[string]bool{
		"":                                    true,
		"not u : a ;":                         true,
		"not u : a ; where u equals x ;":      true,
		"many 1 p : a within 9 ;":             false,
		"many 1 of n p : a within 9 ;":        false,
		"many 0 of n p : a within 9 ;":        true,
		"many 0 of n p : a within 0 ;":        true,
		"not u : c ; many 1 p : b within 0 ;": false,
	} {
		for _, l := range [][]api.Event{nil, {}} {
			wantOne(t, "no events: "+parts, one(t, "when x : a ; "+parts), events(evA(1, 0, 0, 5)), l, fires)
		}
	}
}

// TestNotAlone: P12.2: a not without a link: any other event of its type blocks, whenever it is.
func TestNotAlone(t *testing.T) {
	b := one(t, "when x : a ; not u : b ;")
	x := evA(5, 10, 20, 0)
	for what, l := range map[string][]api.Event{
		"ahead":              events(evB(1, 0, 0, "", 0), x),
		"just ahead":         events(evB(4, 9, 9, "", 0), x),
		"at the same time":   events(evB(4, 10, 20, "", 0), x),
		"within":             events(evB(4, 12, 13, "", 0), x),
		"behind":             events(x, evB(6, 21, 22, "", 0)),
		"far behind":         events(x, evC(6, 30, 30), evB(api.MaxCount, 0, api.MaxTime, "", 0)),
		"the first of some":  events(evB(1, 0, 0, "", 0), evA(2, 0, 0, 0), evC(3, 0, 0), x),
		"the second of some": events(evA(1, 0, 0, 0), evB(2, 0, 0, "", 0), evC(3, 0, 0), x),
	} {
		wantOne(t, what, b, events(x), l, false)
	}
	wantOne(t, "none of it", b, events(x), events(evA(1, 0, 0, 0), evC(2, 0, 0), x, evA(6, 30, 30, 0)), true)
	wantOne(t, "no other one", b, events(x), events(x), true)
}

// TestOwn: P12.2: an event of the tuple does not block it, by any when; another one that is just like it does.
func TestOwn(t *testing.T) {
	l := events(evA(1, 0, 2, 7), evA(2, 0, 2, 7), evB(3, 0, 2, "", 7))
	b := one(t, "when x : a ; not u : a ;")
	wantOne(t, "its own", b, of(l, 1), of(l, 1), true)
	wantOne(t, "its own, and one of another type", b, of(l, 2), of(l, 2, 3), true)
	wantOne(t, "one just like it", b, of(l, 1), of(l, 1, 2), false)
	wantOne(t, "one just like it", b, of(l, 2), of(l, 1, 2), false)
	b = one(t, "when x : a ; when y : a ; not u : a [ n = 7 ] ;")
	wantFired(t, "both are its own", b, l, "1 2, 2 1")
	wantFired(t, "a third one is not", b, came(append(l, evA(0, 0, 2, 7))...), "")
	wantFired(t, "a third one is not taken", b, came(append(l, evA(0, 0, 2, 8))...), "1 2, 2 1")
	b = one(t, "when x : b ; when y : a ; not u : a ; where u equals x ;")
	wantFired(t, "its own later one", b, of(l, 1, 3), "3 1")
	wantFired(t, "another one", b, l, "")
	b = one(t, "when x : a ; when y : b ; when z : c ; not u : a ; not v : b ;")
	wantFired(t, "all are its own", b, events(evA(1, 0, 0, 0), evB(2, 0, 0, "", 0), evC(3, 0, 0)), "1 2 3")
	wantFired(t, "one more, of no not", b, events(evA(1, 0, 0, 0), evB(2, 0, 0, "", 0), evC(3, 0, 0), evC(4, 0, 0)), "1 2 3, 1 2 4")
	wantFired(t, "one more", b, events(evA(1, 0, 0, 0), evB(2, 0, 0, "", 0), evC(3, 0, 0), evB(4, 0, 0, "", 0)), "")
}

// TestOwnByNumber: P12.2: what tells whether an event is one of the tuple's is its Number.
func TestOwnByNumber(t *testing.T) {
	b := one(t, "when x : a ; not u : a ;")
	l := events(evA(1, 0, 3, 7), evA(4, 0, 3, 7))
	wantOne(t, "the other one blocks", b, events(evA(1, 0, 3, 7)), l, false)
	wantOne(t, "alone", b, events(evA(4, 0, 3, 7)), l[1:], true)
	wantOne(t, "another Number, all else is the same", b, events(evA(5, 0, 3, 7)), l[1:], false)
	wantOne(t, "the same Number, another value", b, events(evA(4, 0, 3, 8)), l[1:], true)
}

// TestNotConditions: P12.2: a not's condition on its own event, and on those of the whens, the first and a later one.
func TestNotConditions(t *testing.T) {
	l := events(evA(1, 0, 0, 1), evB(2, 0, 0, "s", 2), evB(3, 0, 0, "t", 1), evA(4, 0, 0, 3))
	for parts, fired := range map[string]string{
		"when x : a ; not u : b [ n = 3 ] ;":                                             "1, 4",
		"when x : a ; not u : b [ n = 2 ] ;":                                             "",
		`when x : a ; not u : b [ s = "t" ] ;`:                                           "",
		`when x : a ; not u : b [ s = "t" and n = 2 ] ;`:                                 "1, 4",
		`when x : a ; not u : b [ s = "r" or not n < 3 ] ;`:                              "1, 4",
		"when x : a ; not u : b [ n = x . n ] ;":                                         "4",
		"when x : a ; not u : b [ n > x . n ] ;":                                         "4",
		"when x : a ; not u : b [ n < x . n ] ;":                                         "1",
		"when x : a ; not u : b [ x . n = 3 ] ;":                                         "1",
		"when x : a ; not u : c [ x . n = x . n ] ;":                                     "1, 4",
		"when x : a ; when y : b ; not u : b [ n = x . n ] ;":                            "1 3, 4 2, 4 3",
		"when x : a ; when y : b ; not u : a [ n > y . n ] ;":                            "4 2, 4 3",
		"when x : a ; when y : b ; not u : b [ s < y . s ] ;":                            "1 2, 4 2",
		"when y : b ; when x : a ; not u : b [ s < y . s ] ;":                            "2 1, 2 4",
		"when x : a ; when y : a ; not u : b [ n = y . n ] ;":                            "1 4",
		"when x : a ; when y : a ; not u : b [ n = x . n ] ;":                            "4 1",
		"when x : b ; when y : b ; when z : a ; not u : a [ n > x . n and n > z . n ] ;": "2 3 4, 3 2 4",
	} {
		wantFired(t, parts, one(t, parts), l, fired)
	}
}

// words of the relations, by their numbers.
var words = []string{"", "before", "after", "meets", "metby", "overlaps", "overlapped", "starts", "startedby", "during", "contains", "finishes", "finishedby", "equals"}

// TestNotRelations: P12.2: a link by each relation, either way round, of spans of which each relation holds: of the link's left one to its right one.
func TestNotRelations(t *testing.T) {
	held := map[int]int{}
	x := api.Span{Start: 5, End: 10}
	for start := range 16 {
		for end := start; end < 16; end++ {
			u := api.Span{Start: start, End: end}
			l := came(evA(0, x.Start, x.End, 0), evB(0, u.Start, u.End, "", 0))
			tuple := ofType(l, 0)
			for k := api.Before; k <= api.Equals; k++ {
				holds, _ := tick.Holds(k, u, x)
				back, _ := tick.Holds(k, x, u)
				if holds {
					held[k]++
				}
				wantOne(t, words[k], one(t, "when x : a ; not u : b ; where u "+words[k]+" x ;"), tuple, l, !holds)
				wantOne(t, words[k]+", turned", one(t, "when x : a ; not u : b ; where x "+words[k]+" u ;"), tuple, l, !back)
			}
		}
	}
	for k := api.Before; k <= api.Equals; k++ {
		if held[k] == 0 {
			t.Errorf("%s never held", words[k])
		}
	}
}

// TestNotDistances: P12.2: an option's Low and High, just at them and one beyond.
func TestNotDistances(t *testing.T) {
	x := evA(1, 0, 10, 0)
	for option, blocks := range map[string][]int{
		"before":             {12, 13, 14, 15, 16},
		"before ( 3 , 5 )":   {13, 14, 15},
		"before ( 4 , 4 )":   {14},
		"before ( 4 , any )": {14, 15, 16},
		"before ( 0 , 3 )":   {12, 13},
		"before ( 7 , any )": nil,
		"before ( 0 , 1 )":   nil,
		"before ( 0 , 0 )":   nil,
	} {
		after := strings.Replace(option, "before", "after", 1)
		for start := 12; start <= 16; start++ {
			l := events(x, evB(2, start, 20, "", 0))
			fires := !slices.Contains(blocks, start)
			wantOne(t, option, one(t, "when x : a ; not u : b ; where x "+option+" u ;"), events(x), l, fires)
			wantOne(t, after, one(t, "when x : a ; not u : b ; where u "+after+" x ;"), events(x), l, fires)
			wantOne(t, option+" turned", one(t, "when x : a ; not u : b ; where u "+option+" x ;"), events(x), l, true)
		}
	}
	far := "when x : a ; not u : a ; where x before ( 0 , 1073741824 ) u ;"
	x = evA(1, 0, 0, 0)
	wantOne(t, "the greatest High", one(t, far), events(x), events(x, evA(2, api.MaxGap, api.MaxGap, 0)), false)
	wantOne(t, "one more", one(t, far), events(x), events(x, evA(2, api.MaxGap+1, api.MaxGap+1, 0)), true)
}

// TestNotOptions: P12.2: of one link one option is enough.
func TestNotOptions(t *testing.T) {
	x := evA(1, 0, 4, 0)
	spans := map[string]api.Span{"equals": {Start: 0, End: 4}, "overlaps": {Start: 2, End: 5}, "meets": {Start: 4, End: 6}, "near": {Start: 7, End: 7}, "far": {Start: 9, End: 9}}
	for options, blocked := range map[string]string{
		"equals":                                 "equals",
		"overlaps":                               "overlaps",
		"meets":                                  "meets",
		"before":                                 "near far",
		"equals or meets":                        "equals meets",
		"meets or equals or overlaps":            "equals meets overlaps",
		"before ( 0 , 3 ) or before ( 5 , 9 )":   "near far",
		"before ( 0 , 2 ) or before ( 4 , 4 )":   "",
		"before ( 0 , 2 ) or before ( 5 , any )": "far",
		"after or during or starts or metby":     "",
		"after or after or after or after or after or equals": "equals",
	} {
		b := one(t, "when x : a ; not u : c ; where x "+options+" u ;")
		for name, s := range spans {
			l := events(x, evC(2, s.Start, s.End))
			wantOne(t, options+" / "+name, b, events(x), l, !slices.Contains(strings.Fields(blocked), name))
		}
	}
}

// TestNotLinks: P12.2: of several links between a not and whens each is asked: one that does not hold lets the tuple go; in either order, with the same when and with two.
func TestNotLinks(t *testing.T) {
	x, y := evA(1, 0, 2, 0), evB(2, 6, 8, "", 0)
	short, between, late, longer := evC(3, 8, 8), evC(3, 4, 9), evC(3, 10, 11), evC(3, 0, 12)
	for links, blocked := range map[string]string{
		"":                                       "short between late longer",
		"where u before x ;":                     "",
		"where x before u ;":                     "short between late",
		"where u after x ;":                      "short between late",
		"where y before u ;":                     "late",
		"where u after y ;":                      "late",
		"where y during u ;":                     "between longer",
		"where u contains y ;":                   "between longer",
		"where x before u ; where y during u ;":  "between",
		"where y during u ; where x before u ;":  "between",
		"where u after x ; where u contains y ;": "between",
		"where u after x ; where y before u ;":   "late",
		"where x before u ; where u before y ;":  "",
		"where x before ( 5 , any ) u ; where u after ( 0 , 6 ) x ;":      "short",
		"where x before ( 2 , any ) u ; where u after ( 0 , 2 ) x ;":      "between",
		"where x before u ; where x before u ; where y before u ;":        "late",
		"where x before u ; where y before or during u ;":                 "between late",
		"where u startedby or after x ; where u contains or finishes y ;": "short between longer",
		"where u startedby x ; where u contains y ;":                      "longer",
		"where u startedby x ; where u finishes y ;":                      "",
		"where x before y ; where u after y ;":                            "late",
	} {
		b := one(t, "when x : a ; when y : b ; not u : c ; "+links)
		for name, u := range map[string]api.Event{"short": short, "between": between, "late": late, "longer": longer} {
			wantOne(t, links+" / "+name, b, events(x, y), events(x, y, u), !slices.Contains(strings.Fields(blocked), name))
		}
	}
	full := "when x : a ; when y : b ; not u : c ; " + strings.Repeat("where x before u ; ", api.MaxLinks-1)
	wantOne(t, "as many as may be, the last one", one(t, full+"where u after y ;"), events(x, y), events(x, y, late), false)
	wantOne(t, "as many as may be, the last one", one(t, full+"where u before y ;"), events(x, y), events(x, y, late), true)
}

// TestWhenLinks: P12.1, P12.2: links between two whens, and links of another not, say nothing of what a not blocks.
func TestWhenLinks(t *testing.T) {
	x, y, u := evA(1, 0, 2, 0), evB(2, 6, 8, "", 0), evC(3, 9, 9)
	for parts, fires := range map[string]bool{
		"not u : c ; where x after y ;":                                             false,
		"not u : c ; where x before y ;":                                            false,
		"not u : c ; where x equals y ; where y before u ;":                         false,
		"not u : c ; where x equals y ; where y after u ;":                          true,
		"not u : c ; not v : c [ 1 = 2 ] ; where v equals x ;":                      false,
		"not v : c [ 1 = 2 ] ; not u : c ; where v equals x ;":                      false,
		"not u : c ; not v : a ; where v equals y ; where u equals y ;":             true,
		"not u : c ; not v : a ; where v equals y ; where x before ( 7 , 7 ) u ;":   false,
		"not u : c ; not v : c ; where v equals y ; where x before ( 8 , 8 ) u ;":   true,
		"not u : c ; not v : c ; where v after y ; where x before ( 8 , 8 ) u ;":    false,
		"not u : c ; not v : c ; where v equals y ; where x before ( 7 , any ) u ;": false,
	} {
		wantOne(t, parts, one(t, "when x : a ; when y : b ; "+parts), events(x, y), events(x, y, u), fires)
	}
}

// TestTwoNots: P12.2: what only one of two nots takes blocks; one that neither of them takes does not.
func TestTwoNots(t *testing.T) {
	b := one(t, "when x : a [ n = 0 ] ; not u : b [ n = 1 ] ; not v : b [ n = 2 ] ; where x before u ; where v before x ;")
	x := evA(5, 10, 10, 0)
	for what, c := range map[string]struct {
		l     []api.Event
		fires bool
	}{
		"none":                              {events(x), true},
		"neither takes it":                  {events(evB(1, 0, 1, "", 3), x, evB(6, 11, 12, "", 3)), true},
		"the first takes it":                {events(x, evB(6, 11, 12, "", 1)), false},
		"the second takes it":               {events(evB(1, 0, 1, "", 2), x), false},
		"the first takes it, not linked":    {events(evB(1, 0, 1, "", 1), x), true},
		"the second takes it, not linked":   {events(x, evB(6, 11, 12, "", 2)), true},
		"one takes it, the other is linked": {events(evB(1, 0, 1, "", 1), x, evB(6, 11, 12, "", 2)), true},
		"both":                              {events(evB(1, 0, 1, "", 2), x, evB(6, 11, 12, "", 1)), false},
		"one of many":                       {events(evB(1, 0, 1, "", 1), evB(2, 0, 1, "", 3), evB(3, 0, 1, "", 2), x), false},
	} {
		wantOne(t, what, b, events(x), c.l, c.fires)
	}
	// No event is taken by one not and linked by another.
	b = one(t, "when x : a ; not u : b ; not v : c ; where u equals x ; where v before x ;")
	x = evA(2, 3, 4, 0)
	wantOne(t, "b, not equal", b, events(x), events(evB(1, 0, 1, "", 0), x), true)
	wantOne(t, "c, not before", b, events(x), events(x, evC(3, 3, 4)), true)
	wantOne(t, "b, equal", b, events(x), events(x, evB(3, 3, 4, "", 0)), false)
	wantOne(t, "c, before", b, events(x), events(evC(1, 0, 1), x), false)
}

// TestCount: P12.1: just Count, one less and one more, of those that a many's pattern takes; its own ones are counted.
func TestCount(t *testing.T) {
	for count := 1; count <= 4; count++ {
		for others := range 6 {
			l := []api.Event{}
			for i := range others {
				l = append(l, evB(2*i+1, 0, 5, "", i), evC(2*i+2, 0, 5))
			}
			x, y := evA(50, 0, 5, 0), evB(51, 0, 5, "", 9)
			b := one(t, fmt.Sprintf("when x : a ; many %d p : b within 0 ;", count))
			wantOne(t, "others", b, events(x), append(slices.Clone(l), x), others >= count)
			b = one(t, fmt.Sprintf("when x : b ; many %d p : b within 0 ;", count))
			wantOne(t, "and its own", b, events(y), append(slices.Clone(l), y), others+1 >= count)
			b = one(t, fmt.Sprintf("when x : a ; when y : b ; many %d p : b within 0 ;", count))
			wantOne(t, "and one of its own", b, events(x, y), append(slices.Clone(l), x, y), others+1 >= count)
		}
	}
	var l []api.Event
	for i := range api.MaxLive {
		l = append(l, evA(i+1, 0, 5, 0))
	}
	b := one(t, "when x : a ; many 120 p : a within 0 ;")
	wantOne(t, "as many as may be", b, l[:1], l, true)
	wantOne(t, "one less", b, l[:1], l[1:], false)
	wantOne(t, "one less", b, l[:1], l[:api.MaxLive-1], false)
}

// TestSum: P12.1: a sum that is just Count, and one less; values below 0 in it; how many there are is not asked.
func TestSum(t *testing.T) {
	for _, values := range [][]int{nil, {5}, {2, 3}, {5, 0}, {0, 0}, {9, -4}, {-4, 9}, {-1}, {-3, -2}, {-5, 5}, {1, 1, 1, 1, 1}, {api.MaxInt}, {-api.MaxInt}, {api.MaxInt, api.MaxInt, -api.MaxInt}} {
		sum := 0
		var l []api.Event
		for i, n := range values {
			sum += n
			l = append(l, evB(i+1, 0, 5, "", n))
		}
		x := evA(50, 0, 5, 7)
		l = append(l, x)
		for _, count := range []int{sum - 1, sum, sum + 1, 0, 1, 2, 5, 6, api.MaxInt} {
			if count < 0 || count > api.MaxInt {
				continue
			}
			b := one(t, fmt.Sprintf("when x : a ; many %d of n p : b within 0 ;", count))
			wantOne(t, fmt.Sprint(count, " of ", values), b, events(x), l, sum >= count)
		}
	}
	// Its own values count, too.
	l := events(evA(1, 0, 5, 3), evA(2, 0, 5, 4))
	for count, fires := range map[int]bool{0: true, 6: true, 7: true, 8: false} {
		b := one(t, fmt.Sprintf("when x : a ; many %d of n p : a within 0 ;", count))
		wantFired(t, fmt.Sprint(count), b, l, map[bool]string{true: "1, 2"}[fires])
	}
	// As many of the greatest values as may be, and of the least ones.
	for _, n := range []int{api.MaxInt, -api.MaxInt} {
		var l []api.Event
		for i := range api.MaxLive {
			l = append(l, evA(i+1, 0, 5, n))
		}
		for _, count := range []int{0, api.MaxInt} {
			b := one(t, fmt.Sprintf("when x : a ; many %d of n p : a within 0 ;", count))
			wantOne(t, "greatest values", b, l[:1], l, n > 0)
		}
	}
}

// TestSumField: P12.1: it is the many's own field that is summed up, wherever it stands in the type.
func TestSumField(t *testing.T) {
	s := "type a { n : int , m : int , k : int , s : text } rule one { when x : a ; many %d of %s p : a within 0 ; }"
	l := []api.Event{
		{Number: 1, Values: []api.Value{num(1), num(10), num(100), text("9")}},
		{Number: 2, Values: []api.Value{num(2), num(20), num(200), text("9")}},
	}
	for field, sum := range map[string]int{"n": 3, "m": 30, "k": 300} {
		wantOne(t, field, read(t, fmt.Sprintf(s, sum, field)), l[:1], l, true)
		wantOne(t, field, read(t, fmt.Sprintf(s, sum+1, field)), l[:1], l, false)
	}
}

// TestManyConditions: P12.1: only those that its pattern takes count: by their type, by a condition on their own values, and on those of the whens.
func TestManyConditions(t *testing.T) {
	l := events(evA(1, 0, 5, 1), evB(2, 0, 5, "s", 2), evB(3, 0, 5, "t", 1), evA(4, 0, 5, 3), evB(5, 0, 5, "s", 3))
	for parts, fired := range map[string]string{
		"when x : a ; many 3 p : b within 0 ;":                                          "1, 4",
		"when x : a ; many 4 p : b within 0 ;":                                          "",
		"when x : a ; many 2 p : a within 0 ;":                                          "1, 4",
		"when x : a ; many 3 p : a within 0 ;":                                          "",
		"when x : a ; many 1 p : c within 0 ;":                                          "",
		"when x : a ; many 2 p : b [ n > 1 ] within 0 ;":                                "1, 4",
		"when x : a ; many 3 p : b [ n > 1 ] within 0 ;":                                "",
		`when x : a ; many 2 p : b [ s = "s" ] within 0 ;`:                              "1, 4",
		`when x : a ; many 2 p : b [ s = "t" ] within 0 ;`:                              "",
		"when x : a ; many 1 p : b [ n = x . n ] within 0 ;":                            "1, 4",
		"when x : a ; many 2 p : b [ n <= x . n ] within 0 ;":                           "4",
		"when x : a ; many 2 p : b [ n > x . n ] within 0 ;":                            "1",
		"when x : a ; many 5 of n p : b [ n > x . n ] within 0 ;":                       "1",
		"when x : a ; many 6 of n p : b [ n > x . n ] within 0 ;":                       "",
		"when x : a ; many 6 of n p : b [ n <= x . n ] within 0 ;":                      "4",
		"when x : a ; many 0 of n p : b [ n > x . n ] within 0 ;":                       "1, 4",
		"when x : a ; when y : b ; many 1 p : b [ n > x . n and n < y . n ] within 0 ;": "1 5",
		"when x : b ; when y : a ; many 2 p : b [ s = x . s ] within 0 ;":               "2 1, 2 4, 5 1, 5 4",
		"when x : a ; when y : b ; many 2 p : b [ n = y . n ] within 0 ;":               "",
		"when x : a ; when y : b ; many 1 p : b [ n = y . n ] within 0 ;":               "1 2, 1 3, 1 5, 4 2, 4 3, 4 5",
	} {
		wantFired(t, parts, one(t, parts), l, fired)
	}
}

// TestManyWindow: P12.1: an End that is the tuple's latest End, and one behind it; an End just N ahead of it, and one more; Starts are not asked.
func TestManyWindow(t *testing.T) {
	x := evA(0, 0, 100, 0)
	for _, n := range []int{0, 1, 2, 7, 99, 100, 101, api.MaxGap} {
		for _, end := range []int{0, 1, 50, 92, 93, 94, 97, 98, 99, 100, 101, 102, 200, api.MaxTime} {
			within := end <= 100 && end >= 100-n
			for _, start := range []int{0, end} {
				l := came(x, evB(0, start, end, "", 5))
				tuple := ofType(l, 0)
				for _, many := range []string{"many 1", "many 5 of n"} {
					wantOne(t, fmt.Sprint(many, " within ", n), one(t, fmt.Sprintf("when x : a ; %s p : b within %d ;", many, n)), tuple, l, within)
				}
			}
		}
	}
	// Far from 0 on.
	x = evA(2, 0, api.MaxTime, 0)
	for d, fires := range map[int]bool{api.MaxGap: true, api.MaxGap - 1: true, api.MaxGap + 1: false, api.MaxTime: false} {
		l := events(evB(1, 0, api.MaxTime-d, "", 0), x)
		wantOne(t, "the greatest N", one(t, "when x : a ; many 1 p : b within 1073741824 ;"), events(x), l, fires)
	}
}

// TestLatestEnd: P12.1: the latest End is that of any of the tuple's events, wherever it stands; its own ones count only where they are within.
func TestLatestEnd(t *testing.T) {
	l := events(evA(1, 0, 2, 0), evB(2, 0, 4, "", 0), evA(3, 0, 6, 0), evB(4, 0, 8, "", 0), evC(5, 0, 9))
	for parts, fired := range map[string]string{
		"when x : a ; when y : b ; many 2 p : b within 4 ;":              "1 4, 3 4",
		"when x : b ; when y : a ; many 2 p : b within 4 ;":              "4 1, 4 3",
		"when x : a ; when y : b ; many 2 p : b within 3 ;":              "",
		"when x : a ; when y : b ; many 1 p : a within 2 ;":              "1 2, 1 4, 3 2, 3 4",
		"when x : a ; when y : b ; many 1 p : a within 1 ;":              "3 2",
		"when x : a ; when y : a ; many 1 p : b within 1 ;":              "",
		"when x : a ; when y : a ; many 1 p : b within 2 ;":              "1 3, 3 1",
		"when x : a ; when y : a ; many 2 p : a within 4 ;":              "1 3, 3 1",
		"when x : a ; when y : a ; many 2 p : a within 3 ;":              "",
		"when x : c ; when y : a ; when z : b ; many 2 p : b within 5 ;": "5 1 2, 5 1 4, 5 3 2, 5 3 4",
		"when x : c ; when y : a ; when z : b ; many 2 p : b within 4 ;": "",
		"when x : a ; when y : c ; when z : b ; many 1 p : b within 1 ;": "1 5 2, 1 5 4, 3 5 2, 3 5 4",
		"when x : a ; when y : c ; when z : b ; many 1 p : b within 0 ;": "",
		"when x : a ; when y : c ; when z : b ; many 1 p : c within 0 ;": "1 5 2, 1 5 4, 3 5 2, 3 5 4",
	} {
		wantFired(t, parts, one(t, parts), l, fired)
	}
}

// TestTwoManies: P12.1: each many asks for its own; one that has too few is enough for the tuple not to be fired.
func TestTwoManies(t *testing.T) {
	l := events(evB(1, 0, 1, "", 4), evB(2, 0, 3, "", 2), evC(3, 0, 3), evA(4, 0, 5, 0))
	for manies, fires := range map[string]bool{
		"many 1 p : b within 2 ; many 1 q : c within 2 ;":           true,
		"many 2 p : b within 2 ; many 1 q : c within 2 ;":           false,
		"many 1 p : b within 2 ; many 2 q : c within 2 ;":           false,
		"many 2 p : b within 2 ; many 2 q : c within 2 ;":           false,
		"many 2 p : b within 4 ; many 1 q : b within 2 ;":           true,
		"many 2 p : b within 4 ; many 2 q : b within 2 ;":           false,
		"many 2 p : b within 2 ; many 2 q : b within 4 ;":           false,
		"many 2 p : b within 4 ; many 6 of n q : b within 4 ;":      true,
		"many 2 p : b within 4 ; many 7 of n q : b within 4 ;":      false,
		"many 6 of n p : b within 4 ; many 3 q : b within 4 ;":      false,
		"many 6 of n p : b within 4 ; many 2 of n q : b within 2 ;": true,
		"many 6 of n p : b within 4 ; many 3 of n q : b within 2 ;": false,
		"many 1 p : a within 0 ; many 0 of n q : a within 0 ;":      true,
	} {
		wantOne(t, manies, one(t, "when x : a ; "+manies), events(l[3]), l, fires)
	}
}

// TestNotsAndManies: P12.1: both are asked: nothing blocks, and there are enough; what a many counts may block, too.
func TestNotsAndManies(t *testing.T) {
	x := evA(3, 0, 5, 0)
	enough, few := events(evB(1, 0, 4, "", 1), evB(2, 0, 5, "", 2), x), events(evB(2, 0, 5, "", 2), x)
	for parts, fires := range map[string][2]bool{
		"not u : c ; many 2 p : b within 1 ;":                                                        {true, false},
		"not u : b ; many 2 p : b within 1 ;":                                                        {false, false},
		"not u : b [ n = 1 ] ; many 1 p : b within 1 ;":                                              {false, true},
		"not u : b [ n = 3 ] ; many 2 p : b within 1 ;":                                              {true, false},
		"not u : b ; where u after x ; many 2 p : b within 1 ;":                                      {true, false},
		"not u : b ; where u starts ( 1 , 1 ) x ; many 1 p : b within 1 ;":                           {false, true},
		"not u : b ; not v : c ; where u after x ; many 3 of n p : b within 1 ;":                     {true, false},
		"not u : b ; not v : c ; where u after x ; many 1 of n p : b [ n = 1 ] within 1 ;":           {true, false},
		"not u : b ; not v : c ; where u equals x ; many 1 p : a within 0 ;":                         {false, false},
		"not u : b ; not v : c ; where u starts x ; many 1 p : a within 0 ; many 1 q : b within 0 ;": {false, true},
	} {
		wantOne(t, parts, one(t, "when x : a ; "+parts), events(x), enough, fires[0])
		wantOne(t, parts+" (few)", one(t, "when x : a ; "+parts), events(x), few, fires[1])
	}
}

// TestLater: P12.1: what comes behind the tuple's latest End may block it, but adds nothing to a many.
func TestLater(t *testing.T) {
	x := evA(1, 0, 5, 0)
	l := events(x, evB(2, 6, 6, "", -9), evB(3, 6, 7, "", 9))
	wantOne(t, "a not", one(t, "when x : a ; not u : b ;"), events(x), l, false)
	wantOne(t, "a many", one(t, "when x : a ; many 1 p : b within 9 ;"), events(x), l, false)
	wantOne(t, "a sum", one(t, "when x : a ; many 0 of n p : b within 9 ;"), events(x), l[:2], true)
	wantOne(t, "a sum", one(t, "when x : a ; many 1 of n p : b within 9 ;"), events(x), l, false)
}

// TestNotAmong: P12.1, P12.2: events that are not among all events, as a tuple: nothing of them is counted, and all events are others.
func TestNotAmong(t *testing.T) {
	l := events(evA(2, 0, 4, 1), evB(4, 0, 6, "", 1))
	x := evA(1, 0, 6, 1)
	for parts, fires := range map[string]bool{
		"":                                      true,
		"not u : c ;":                           true,
		"not u : a ;":                           false,
		"not u : a [ n /= x . n ] ;":            true,
		"not u : a ; where u equals x ;":        true,
		"not u : a ; where u starts x ;":        false,
		"many 1 p : a within 2 ;":               true,
		"many 2 p : a within 2 ;":               false,
		"many 1 p : a within 1 ;":               false,
		"many 1 of n p : a within 2 ;":          true,
		"many 2 of n p : a within 2 ;":          false,
		"many 1 p : b [ n = x . n ] within 0 ;": true,
	} {
		wantOne(t, parts, one(t, "when x : a ; "+parts), events(x), l, fires)
	}
	// The latest End is the tuple's own, whether or not its event is among them; Numbers of a tuple may be any.
	b := one(t, "when x : a ; when y : b ; many 1 p : a within 2 ;")
	wantOne(t, "far behind", b, events(x, evB(900, 50, 60, "", 0)), l, false)
	wantOne(t, "far ahead", b, events(evA(7, 0, 1, 0), evB(3, 0, 3, "", 0)), l, false)
	wantOne(t, "not as they came", b, events(evA(7, 0, 6, 0), evB(3, 0, 1, "", 0)), l, true)
}

// TestNoTuple: P12.1: whether they are a tuple (P11.2) is not asked: an event twice, whens that would not take theirs, links between whens, and windows.
func TestNoTuple(t *testing.T) {
	l := events(evA(1, 0, 1, 0), evA(2, 5, 6, 0), evA(3, 8, 9, 0))
	for parts, tuple := range map[string][]api.Event{
		"when x : a [ n = 7 ] ;":                                of(l, 1),
		"when x : a ; when y : a ;":                             of(l, 1, 1),
		"when x : a ; when y : a [ n > x . n ] ;":               of(l, 1, 2),
		"when x : a ; when y : a ; where x after y ;":           of(l, 1, 2),
		"when x : a over time 4 ; when y : a ;":                 of(l, 1, 2),
		"when x : a over last 2 ; when y : a ;":                 of(l, 1, 3),
		"when x : a ; when y : a over last 1 ;":                 of(l, 3, 2),
		"when x : a ; when y : a ; when z : a ;":                of(l, 2, 2, 2),
		"when x : a ; when y : a ; where x meets ( 1 , 2 ) y ;": of(l, 1, 2), // which can never be
	} {
		if got, e := join.Tuples(one(t, parts), 0, l); e != api.OK || slices.ContainsFunc(got, func(n []int) bool { return slices.Equal(n, numbers(tuple)) }) {
			t.Fatalf("%s: %v is a tuple, or %v", parts, numbers(tuple), e)
		}
		wantOne(t, parts, one(t, parts), tuple, l, true)
		wantOne(t, parts+" and a not", one(t, parts+" not u : a ; where u during x ;"), tuple, l, true)
		wantOne(t, parts+" and a not", one(t, parts+" not u : a ; where u before or after or meets x ;"), tuple, l, false)
		wantOne(t, parts+" and a many", one(t, parts+" many 1 p : a within 0 ;"), tuple, l, true)
		wantOne(t, parts+" and a many", one(t, parts+" many 4 p : a within 9 ;"), tuple, l, false)
	}
	// One that stands there twice is counted once.
	wantOne(t, "twice", one(t, "when x : a ; when y : a ; many 2 p : a within 0 ;"), of(l, 1, 1), l, false)
}

func numbers(l []api.Event) []int {
	var out []int
	for _, x := range l {
		out = append(out, x.Number)
	}
	return out
}

// TestEndless: P12.1: whether the rule can ever be, and how long it waits (P9.2), is not asked.
func TestEndless(t *testing.T) {
	x := evA(1, 0, 1, 0)
	b := one(t, "when x : a ; not u : b ;")
	if _, e := plan.Rule(b, 0); e != api.ErrEndless {
		t.Fatal(e)
	}
	wantOne(t, "endless", b, events(x), events(x), true)
	b = one(t, "when x : a ; when y : a ; where x equals ( 1 , any ) y ; not u : b ;")
	if _, e := plan.Rule(b, 0); e != api.ErrNever {
		t.Fatal(e)
	}
	wantOne(t, "never", b, events(x, x), events(x), true)
	wantOne(t, "never, and a not", b, events(x, x), events(x, evB(2, 0, 1, "", 0)), false)
}

// TestRules: P12.1: each rule of as many as may be is asked for itself; a rule that there is not, below and above.
func TestRules(t *testing.T) {
	s := types
	for i := range api.MaxRules {
		s += fmt.Sprint("rule r", i, " { when x : a ; not u : b [ n = ", i, " ] ; } ")
	}
	b := read(t, s)
	x := evA(1, 0, 0, 0)
	for i := range api.MaxRules {
		for n := range api.MaxRules + 1 {
			want(t, "a rule", b, i, events(x), events(x, evB(2, 0, 0, "", n)), n != i, api.OK)
		}
	}
	for n := range api.MaxRules + 1 {
		fewer := b
		fewer.Rules = b.Rules[:n]
		for _, rule := range []int{-1, -2, math.MinInt, n, n + 1, 1 << 32, math.MaxInt} {
			want(t, "no rule", fewer, rule, events(x), events(x), false, api.ErrRange)
			want(t, "no rule, no events", fewer, rule, nil, nil, false, api.ErrRange)
		}
	}
	want(t, "nothing at all", api.Book{}, 0, nil, nil, false, api.ErrRange)
}

// TestBooks: P12.1: a book that Check refuses, with each error, whatever else is wrong.
func TestBooks(t *testing.T) {
	seen := map[api.Errno]bool{}
	for what, b := range map[string]api.Book{
		"types":       {Types: make([]api.Type, api.MaxTypes+1)},
		"rules":       {Rules: make([]api.Rule, api.MaxRules+1)},
		"no name":     {Types: make([]api.Type, 1)},
		"kept":        {Types: []api.Type{{Name: "when"}}},
		"kind":        {Types: []api.Type{{Name: "a", Fields: []api.Field{{Name: "n", Kind: 3}}}}},
		"twice":       read(t, "type a { } type a { }"),
		"no type":     read(t, "type a { } rule r { when x : a ; not u : b ; }"),
		"no whens":    {Rules: []api.Rule{{Name: "r"}}},
		"a later one": read(t, "type a { } rule r { when x : a ; } rule s { when x : b ; }"),
		"many":        read(t, "type a { } rule r { when x : a ; many 0 p : a within 3 ; }"),
		"many of":     read(t, "type a { s : text } rule r { when x : a ; many 1 of s p : a within 3 ; }"),
		"within":      read(t, "type a { } rule r { when x : a ; many 1 p : a within 2000000000 ; }"),
		"nots":        read(t, "type a { } rule r { when x : a ; not u : a ; not v : a ; where u equals v ; }"),
		"three nots":  read(t, "type a { } rule r { when x : a ; not u : a ; not v : a ; not w : a ; }"),
		"a many's":    read(t, "type a { } rule r { when x : a ; many 1 p : a within 3 ; where x equals p ; }"),
		"order":       read(t, "type a { } rule r { when x : a ; not u : a ; where x before ( 3 , 2 ) u ; }"),
		"endless":     read(t, "type a { } type b { } rule r { when x : b ; not u : a ; emit a ( ) ; }"),
	} {
		e := check.Check(b)
		if e == api.OK {
			t.Errorf("%s: not refused", what)
		}
		seen[e] = true
		for _, l := range [][]api.Event{nil, events(api.Event{Number: 1}), make([]api.Event, 1), make([]api.Event, api.MaxLive+1)} {
			for _, tuple := range [][]api.Event{nil, events(api.Event{Number: 1}), make([]api.Event, 4)} {
				for _, rule := range []int{0, -1, 5, math.MaxInt} {
					want(t, what, b, rule, tuple, l, false, e)
				}
			}
		}
	}
	for _, e := range []api.Errno{api.ErrSize, api.ErrRange, api.ErrKind, api.ErrForm, api.ErrNone, api.ErrTwice, api.ErrType, api.ErrOrder, api.ErrEndless} {
		if !seen[e] {
			t.Errorf("no book is refused with %v", e)
		}
	}
}

// spoilt event.
type spoilt struct {
	x api.Event
	e api.Errno
}

// spoiltAll: events that CheckEvent refuses, with this Number and End, where these are not what is wrong.
func spoiltAll(number, end int) []spoilt {
	with := func(e api.Errno, change func(x *api.Event)) spoilt {
		x := evB(number, 0, end, "s", 1)
		change(&x)
		return spoilt{x, e}
	}
	return []spoilt{
		with(api.ErrRange, func(x *api.Event) { x.Number = 0 }),
		with(api.ErrRange, func(x *api.Event) { x.Number = -number }),
		with(api.ErrRange, func(x *api.Event) { x.Number = api.MaxCount + 1 }),
		with(api.ErrNone, func(x *api.Event) { x.Type = -1 }),
		with(api.ErrNone, func(x *api.Event) { x.Type = 3 }),
		with(api.ErrNone, func(x *api.Event) { x.Type = math.MaxInt }),
		with(api.ErrRange, func(x *api.Event) { x.Span.Start = -1 }),
		with(api.ErrRange, func(x *api.Event) { x.Span.End = api.MaxTime + 1 }),
		with(api.ErrOrder, func(x *api.Event) { x.Span.Start = end + 1 }),
		with(api.ErrType, func(x *api.Event) { x.Values = nil }),
		with(api.ErrType, func(x *api.Event) { x.Values = append(x.Values, num(1)) }),
		with(api.ErrType, func(x *api.Event) { slices.Reverse(x.Values) }),
		with(api.ErrRange, func(x *api.Event) { x.Values[1] = num(api.MaxInt + 1) }),
		with(api.ErrSize, func(x *api.Event) { x.Values[0] = text(strings.Repeat("s", api.MaxText+1)) }),
		with(api.ErrForm, func(x *api.Event) { x.Values[0].Int = 1 }),
		with(api.ErrKind, func(x *api.Event) { x.Values[0].Kind = 3 }),
	}
}

// TestSpoiltEvents: P12.1: what CheckEvents refuses of all events, the first one and a later one, ahead of all that is wrong of the rule and the tuple.
func TestSpoiltEvents(t *testing.T) {
	b := one(t, "when x : a ; when y : b ;")
	fine := events(evA(1, 0, 1, 0), evB(2, 0, 2, "", 0), evC(3, 0, 3))
	refused := func(what string, l []api.Event, e api.Errno) {
		t.Helper()
		if got := join.CheckEvents(b, l); got != e {
			t.Fatalf("CheckEvents of %v: %v, not %v", l, got, e)
		}
		for _, tuple := range [][]api.Event{fine[:2], fine[:1], nil, fine, of(fine, 2, 1), make([]api.Event, 2)} {
			for _, rule := range []int{0, -1, 1} {
				want(t, what, b, rule, tuple, l, false, e)
			}
		}
	}
	for at := range fine {
		for _, s := range spoiltAll(at+1, at+1) {
			l := slices.Clone(fine)
			l[at] = s.x
			refused(fmt.Sprint("a spoilt event at ", at), l, s.e)
		}
	}
	for what, l := range map[string][]api.Event{
		"a Number twice":          events(fine[0], evB(1, 0, 2, "", 0)),
		"a Number that goes back": events(fine[0], fine[2], evB(2, 0, 5, "", 0)),
		"an End that goes back":   events(fine[0], fine[1], evC(3, 0, 1)),
		"in another order":        of(fine, 2, 1),
	} {
		refused(what, l, api.ErrState)
	}
	refused("too many", make([]api.Event, api.MaxLive+1), api.ErrSize)
}

// TestSpoiltTuple: P12.1: an event of the tuple that CheckEvent refuses, the first one, a later one, and one too many.
func TestSpoiltTuple(t *testing.T) {
	b := one(t, "when x : b ; when y : b ; when z : b ; not u : b ; many 9 p : b within 0 ;")
	x := evB(7, 0, 3, "", 0)
	for _, s := range spoiltAll(7, 3) {
		if e := value.CheckEvent(b.Types, s.x); e != s.e {
			t.Fatalf("CheckEvent of %v: %v, not %v", s.x, e, s.e)
		}
		for n := 1; n <= 5; n++ {
			for at := range n {
				tuple := slices.Repeat(events(x), n)
				tuple[at] = s.x
				for _, l := range [][]api.Event{nil, events(x)} {
					want(t, fmt.Sprint("a spoilt event at ", at, " of ", n), b, 0, tuple, l, false, s.e)
				}
				// Another error of one behind it is not told; nor is that one is not of its when's type.
				want(t, "one behind it", b, 0, append(tuple, api.Event{Number: 1, Type: -1}), nil, false, s.e)
				tuple = append(events(evA(1, 0, 0, 0)), tuple...)
				want(t, "one ahead of it is of another type", b, 0, tuple, nil, false, s.e)
			}
		}
	}
}

// TestHowMany: P12.1: one event too few in the tuple, one too many, none, and many more, of rules of one to three whens.
func TestHowMany(t *testing.T) {
	whens := "when x : a ; when y : a ; when z : a ;"
	x := evA(1, 0, 0, 0)
	for n := 1; n <= api.MaxWhens; n++ {
		b := one(t, strings.Join(strings.SplitAfter(whens, ";")[:n], ""))
		for k := range 7 {
			if k == n {
				want(t, "as many as whens", b, 0, slices.Repeat(events(x), k), events(x), true, api.OK)
				continue
			}
			want(t, "not as many", b, 0, slices.Repeat(events(x), k), events(x), false, api.ErrForm)
			want(t, "not as many, of another type", b, 0, slices.Repeat(events(evC(1, 0, 0)), k), events(x), false, api.ErrForm)
		}
		want(t, "many more", b, 0, slices.Repeat(events(x), 3000), nil, false, api.ErrForm)
		want(t, "none, not nil", b, 0, events(), nil, false, api.ErrForm)
	}
}

// TestOtherTypes: P12.1: an event of the tuple that is not of its when's type, the first one and a later one.
func TestOtherTypes(t *testing.T) {
	b := one(t, "when x : a ; when y : b ; when z : c ; not u : b ;")
	right := events(evA(1, 0, 0, 0), evB(2, 0, 0, "", 0), evC(3, 0, 0))
	for at := range right {
		for _, x := range right {
			tuple := slices.Clone(right)
			tuple[at] = x
			if x.Type == right[at].Type {
				want(t, "right", b, 0, tuple, right, true, api.OK)
			} else {
				want(t, "wrong", b, 0, tuple, right, false, api.ErrType)
				want(t, "wrong, no events", b, 0, tuple, nil, false, api.ErrType)
			}
		}
	}
	want(t, "turned", b, 0, of(right, 3, 2, 1), right, false, api.ErrType)
	// A type of the same fields is another one.
	twins := read(t, "type a { n : int } type b { n : int } rule one { when x : a ; when y : b [ n = x . n ] ; }")
	x, y := evA(1, 0, 0, 0), evA(2, 0, 0, 0)
	want(t, "twins", twins, 0, events(x, y), nil, false, api.ErrType)
	y.Type = 1
	want(t, "twins", twins, 0, events(y, x), nil, false, api.ErrType)
	want(t, "twins", twins, 0, events(x, y), nil, true, api.OK)
}

// TestFirstError: P12.1: where several errors apply, the one that is named first is told: all is wrong, and mended one after another.
func TestFirstError(t *testing.T) {
	good, bad := one(t, "when x : a ; when y : b ;"), one(t, "when x : a ; when y : b ;")
	bad.Types[0].Name = "A"
	l := make([]api.Event, api.MaxLive+1)
	tuple := events(evA(1, 5, 4, 0), evA(0, 0, 0, 0), evC(1, 0, 0))
	want(t, "all is wrong", bad, 2, tuple, l, false, api.ErrForm)
	want(t, "how many events", good, 2, tuple, l, false, api.ErrSize)
	l = l[:2]
	l[0] = evA(1, 0, 0, 0)
	l[0].Type = 3
	want(t, "the first event", good, 2, tuple, l, false, api.ErrNone)
	l[0].Type = 0
	want(t, "the second event", good, 2, tuple, l, false, api.ErrRange)
	l[1] = l[0]
	want(t, "its state", good, 2, tuple, l, false, api.ErrState)
	l[1] = evB(2, 0, 0, "", 0)
	want(t, "the rule", good, 2, tuple, l, false, api.ErrRange)
	want(t, "the tuple's first event", good, 0, tuple, l, false, api.ErrOrder)
	tuple[0].Span.Start = 0
	want(t, "the tuple's second event", good, 0, tuple, l, false, api.ErrRange)
	tuple[1].Number = 7
	want(t, "how many", good, 0, tuple, l, false, api.ErrForm)
	want(t, "how many", good, 0, tuple[1:2], l, false, api.ErrForm)
	want(t, "their types", good, 0, tuple[:2], l, false, api.ErrType)
	tuple[1] = evB(7, 0, 0, "", 0)
	want(t, "nothing", good, 0, tuple[:2], l, true, api.OK)
}
