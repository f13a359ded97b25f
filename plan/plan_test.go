package plan

import (
	"fmt"
	"math"
	"reflect"
	"slices"
	"strings"
	"testing"

	"dotterel/api"
	"dotterel/check"
	"dotterel/lex"
	"dotterel/parse"
	"dotterel/tick"
)

const (
	none = api.None
	gap  = api.MaxGap
)

// types of the books that are written out in the tests.
const types = "type a { n : int } type b { } type c { } type d { } type e { } "

// read a book that is written out in a test.
func read(t *testing.T, s string) api.Book {
	t.Helper()
	l, place, e := lex.Cut(s)
	if e != api.OK {
		t.Fatalf("Cut(%q): %d, %v", s, place, e)
	}
	b, place, e := parse.Parse(l)
	if e != api.OK {
		t.Fatalf("Parse(%q): %d, %v", s, place, e)
	}
	return b
}

// one rule with these parts, in a book of its own.
func one(t *testing.T, parts string) api.Book {
	t.Helper()
	return read(t, types+"rule one { "+parts+" }")
}

// alike: are two plans the same, whether lists without elements are nil or not?
func alike(p, q api.Plan) bool {
	return p.Delay == q.Delay && slices.Equal(p.Whens, q.Whens) && slices.Equal(p.Nots, q.Nots) && slices.Equal(p.Manies, q.Manies)
}

// wantPlan: with OK that plan, with an error an empty one.
func wantPlan(t *testing.T, what string, b api.Book, at int, want api.Plan, wantE api.Errno) {
	t.Helper()
	if p, e := Rule(b, at); e != wantE || !alike(p, want) {
		t.Errorf("%s: %+v, %v; want %+v, %v", what, p, e, want, wantE)
	}
}

// wantOffsets: with OK these, with an error none.
func wantOffsets(t *testing.T, what string, b api.Book, want []int, wantE api.Errno) {
	t.Helper()
	if l, e := Offsets(b); e != wantE || !slices.Equal(l, want) {
		t.Errorf("%s: %v, %v; want %v, %v", what, l, e, want, wantE)
	}
}

// ints: a list, told shortly.
func ints(l ...int) []int { return l }

// TestWhens: P9.1, P9.2: rules of whens alone, which wait for nothing.
func TestWhens(t *testing.T) {
	for _, c := range []struct {
		parts string
		want  []int
	}{
		{"when x : a ;", ints(1)},
		{"when x : a over time 3 ;", ints(1)}, // there are no others
		{"when x : a over last 2 ;", ints(1)},
		{"when x : a ; when y : b ;", ints(none, none)},
		{"when x : a over last 2 ; when y : b over last 1 ;", ints(none, none)}, // a count is no bound of time
		{"when x : a over time 3 ; when y : b ;", ints(4, none)},
		{"when x : a ; when y : b over time 3 ;", ints(none, 4)},
		{"when x : a over time 3 ; when y : b over time 5 ;", ints(4, 6)},
		{"when x : a over time 0 ; when y : b over last 3 ;", ints(1, none)},
		{"when x : a ; when y : b ; when z : c ;", ints(none, none, none)},
		{"when x : a over time 0 ; when y : b over time 0 ; when z : c over time 0 ;", ints(1, 1, 1)}, // windows alone never keep whens apart
		{"when x : a over time 10 ; when y : b over time 2 ; when z : c ;", ints(11, 3, none)},
		{"when x : a over time 10 ; when y : b over time 2 ; when z : c over time 0 ;", ints(11, 3, 1)},
		{"when x : a over time 10 ; when y : b over time 2 ; when z : c ; where z equals x ;", ints(11, 3, 11)},
	} {
		wantPlan(t, c.parts, one(t, c.parts), 0, api.Plan{Whens: c.want}, api.OK)
	}
}

// TestRelations: P9.1, P9.2: two whens and a link of each relation; the inverse one the other way round says the same.
func TestRelations(t *testing.T) {
	for r, want := range map[int][][]int{ // with any distance, and with one from 2 to 5
		api.Before:       {ints(none, 1), ints(none, 1)},
		api.After:        {ints(1, none), ints(1, none)},
		api.Meets:        {ints(none, 1), nil},
		api.MetBy:        {ints(1, none), nil},
		api.Overlaps:     {ints(none, 1), ints(none, 1)},
		api.OverlappedBy: {ints(1, none), ints(1, none)},
		api.Starts:       {ints(none, 1), ints(6, 1)},
		api.StartedBy:    {ints(1, none), ints(1, 6)},
		api.During:       {ints(none, 1), ints(none, 1)},
		api.Contains:     {ints(1, none), ints(1, none)},
		api.Finishes:     {ints(1, 1), ints(1, 1)},
		api.FinishedBy:   {ints(1, 1), ints(1, 1)},
		api.Equals:       {ints(1, 1), nil},
	} {
		inverse, _ := tick.Inverse(r)
		for i, o := range []api.Option{{Relation: r, High: -1}, {Relation: r, Low: 2, High: 5}} {
			wantE := api.OK
			if want[i] == nil {
				wantE = api.ErrNever
			}
			b := one(t, "when x : a ; when y : b ;")
			b.Rules[0].Links = []api.Link{{Left: "x", Options: []api.Option{o}, Right: "y"}}
			wantPlan(t, fmt.Sprint("x to y: ", o), b, 0, api.Plan{Whens: want[i]}, wantE)
			o.Relation = inverse
			b.Rules[0].Links = []api.Link{{Left: "y", Options: []api.Option{o}, Right: "x"}}
			wantPlan(t, fmt.Sprint("y to x: ", o), b, 0, api.Plan{Whens: want[i]}, wantE)
		}
	}
}

// TestLinks: P9.1, P9.2: links of several options, several links, links and windows, ways of links.
func TestLinks(t *testing.T) {
	const two, three = "when x : a ; when y : b ; ", "when x : a ; when y : b ; when z : c ; "
	for _, c := range []struct {
		parts string
		want  []int
	}{
		{two + "where x starts ( 2 , 4 ) or finishes y ;", ints(5, 1)},
		{two + "where x starts ( 2 , 4 ) or startedby ( 1 , 3 ) y ;", ints(5, 4)},
		{two + "where x equals or before ( 1 , 3 ) y ;", ints(none, 1)},
		{two + "where x before or after y ;", ints(none, none)},
		{two + "where x starts ( 2 , 4 ) or meets ( 1 , 9 ) y ;", ints(5, 1)},                                             // of two options one that can be
		{two + "where x starts ( 0 , 4 ) or startedby ( 0 , 3 ) y ; where y starts ( 0 , 2 ) or equals x ;", ints(1, 3)},  // two links say more than one
		{two + "where y starts ( 0 , 2 ) or equals x ; where x starts ( 0 , 4 ) or startedby ( 0 , 3 ) y ;", ints(1, 3)},  // in either order
		{"when x : a over time 2 ; when y : b over time 9 ; where x starts ( 1 , 5 ) y ;", ints(3, 1)},                    // a window that says more than the link
		{"when x : a over time 5 ; when y : b ; where x before ( 2 , 3 ) y ;", ints(6, 1)},                                // a link that leaves an end open
		{"when x : a over time 9 ; when y : b ; where y startedby ( 1 , 5 ) x ;", ints(6, 1)},                             // a link that says more than the window
		{"when x : a over time 5 ; when y : b ; where x after y ;", ints(1, none)},                                        // the window is beside the point
		{three + "where x starts ( 1 , 2 ) y ; where y starts ( 1 , 3 ) z ;", ints(6, 4, 1)},                              // a way of two links
		{three + "where z startedby ( 1 , 3 ) y ; where y startedby ( 1 , 2 ) x ;", ints(6, 4, 1)},                        // against their order
		{three + "where x starts ( 1 , 2 ) y ; where x starts ( 1 , 3 ) z ;", ints(4, 3, 2)},                              // by the one at the front
		{three + "where x starts ( 1 , 9 ) z ; where x starts ( 1 , 2 ) y ; where y starts ( 1 , 3 ) z ;", ints(6, 4, 1)}, // the way says more than the link
		{three + "where x starts ( 1 , 4 ) y ; where z finishes x ;", ints(5, 1, 5)},
		{three + "where x before ( 0 , 4 ) y ; where y before ( 0 , 2 ) z ;", ints(none, none, 1)},
		{three + "where x before y ;", ints(none, none, none)},                                                  // the third one is free
		{"when x : a over time 10 ; when y : b ; when z : c ; where x starts ( 4 , 6 ) y ;", ints(11, 7, none)}, // the window, less what the link takes
		{"when x : a ; when y : b over time 7 ; when z : c ; where x starts ( 4 , 6 ) y ;", ints(14, 8, none)},  // and more
		{"when x : a ; when y : b ; when z : c over time 7 ; where x starts ( 4 , 6 ) y ; where z equals y ;", ints(7, 1, 1)},
		{"when z : a ; when y : b ; when x : c over time 7 ; where x starts ( 4 , 6 ) y ; where z overlaps y ;", ints(none, 1, 7)}, // whens are told in their order
	} {
		wantPlan(t, c.parts, one(t, c.parts), 0, api.Plan{Whens: c.want}, api.OK)
	}
}

// TestNots: P9.1, P9.2: how long a rule waits for its nots, and how long they are needed.
func TestNots(t *testing.T) {
	const x, xy = "when x : a ; not u : b ; ", "when x : a ; when y : c ; not u : b ; "
	for _, c := range []struct {
		parts       string
		delay       int
		whens, nots []int
	}{
		{x + "where u starts ( 1 , 3 ) x ;", 0, ints(1), ints(4)},    // it ends ahead: its least bound is below 0
		{x + "where u equals x ;", 0, ints(1), ints(1)},              // 0
		{x + "where u startedby ( 1 , 3 ) x ;", 3, ints(4), ints(3)}, // above 0
		{x + "where x starts ( 1 , 3 ) u ;", 3, ints(4), ints(3)},    // the other way round
		{x + "where u startedby ( 3 , 3 ) x ;", 3, ints(4), ints(1)},
		{x + "where u startedby ( 1 , 1 ) x ;", 1, ints(2), ints(1)},
		{x + "where u finishes x ;", 0, ints(1), ints(1)},
		{x + "where u during x ;", 0, ints(1), ints(none)}, // it may have ended long ago
		{x + "where u before ( 0 , 4 ) x ;", 0, ints(1), ints(none)},
		{x + "where u meets x ;", 0, ints(1), ints(none)},
		{x + "where u overlaps ( 1 , 2 ) x ;", 0, ints(1), ints(none)},
		{x + "where u starts ( 2 , 5 ) or startedby ( 3 , 4 ) x ;", 4, ints(5), ints(10)},
		{x + "where u equals or startedby ( 1 , 3 ) x ;", 3, ints(4), ints(4)},
		{x + "where u before or startedby ( 1 , 3 ) x ;", 3, ints(4), ints(none)},
		{x + "where u startedby ( 1 , 9 ) x ; where x starts ( 2 , 3 ) or equals u ;", 3, ints(4), ints(3)},    // two links to one when
		{xy + "where u startedby ( 2 , 4 ) x ; where u startedby ( 1 , 1 ) y ;", 1, ints(none, none), ints(1)}, // the least one of two
		{xy + "where u startedby ( 1 , 1 ) x ; where u startedby ( 2 , 4 ) y ;", 1, ints(none, none), ints(1)},
		{xy + "where u contains x ; where u during y ;", 0, ints(none, none), ints(none)}, // just one is bounded, the last one
		{xy + "where u during x ; where u contains y ;", 0, ints(none, none), ints(none)}, // the first one
		{xy + "where u equals x ;", 0, ints(none, none), ints(none)},                      // linked to one of two
		{xy + "where u equals y ; where x equals y ;", 0, ints(1, 1), ints(1)},
		{"when x : a over time 5 ; when y : c over time 5 ; not u : b ; where u startedby ( 2 , 4 ) x ;", 4, ints(10, 10), ints(8)},
		{"when x : a over time 5 ; when y : c over last 5 ; not u : b ; where y starts ( 2 , 4 ) u ;", 4, ints(10, none), ints(none)},
		{"when x : a over time 5 ; when y : c over time 6 ; not u : b ; where u startedby ( 2 , 4 ) x ; where y before x ;", 4, ints(5, 11), ints(3)},
		{"when x : a ; when y : c ; when z : d ; not u : b ; where x starts ( 1 , 2 ) y ; where y starts ( 1 , 3 ) z ; where u startedby ( 0 , 7 ) y ;", 6, ints(12, 10, 7), ints(9)},
		{"when x : a ; when y : c ; when z : d ; not u : b ; where x starts ( 1 , 2 ) y ; where y starts ( 1 , 3 ) z ; where u finishes y ;", 0, ints(6, 4, 1), ints(4)},
	} {
		wantPlan(t, c.parts, one(t, c.parts), 0, api.Plan{Delay: c.delay, Whens: c.whens, Nots: c.nots}, api.OK)
	}
}

// TestNotsAlone: P9.1, P9.2: what a not says bounds neither the whens nor another not; a window bounds no not.
func TestNotsAlone(t *testing.T) {
	for _, c := range []struct {
		parts string
		want  api.Plan
	}{
		// The whens would be bound to one another by way of the not.
		{"when x : a ; when y : c ; not u : b ; where u equals x ; where u equals y ;", api.Plan{Whens: ints(none, none), Nots: ints(1)}},
		// The one not ends with x, and so with y; the other one with y alone.
		{"when x : a ; when y : c ; not u : b ; not v : b ; where u equals x ; where u equals y ; where v equals y ;", api.Plan{Whens: ints(none, none), Nots: ints(1, none)}},
		{"when x : a ; when y : c ; not v : b ; not u : b ; where u equals x ; where u equals y ; where v equals y ;", api.Plan{Whens: ints(none, none), Nots: ints(none, 1)}},
		// The window of x is asked of whens: the not may be longer than it behind x, and ahead of it.
		{"when x : a over time 2 ; not u : b ; where u startedby ( 5 , 9 ) x ;", api.Plan{Delay: 9, Whens: ints(10), Nots: ints(5)}},
		{"when x : a over time 2 ; when y : c over time 0 ; not u : b ; where u startedby ( 5 , 9 ) x ;", api.Plan{Delay: 9, Whens: ints(12, 10), Nots: ints(7)}},
		// Two nots: the greatest delay of both.
		{"when x : a ; not u : b ; not v : c ; where u startedby ( 1 , 3 ) x ; where v startedby ( 2 , 7 ) x ;", api.Plan{Delay: 7, Whens: ints(8), Nots: ints(7, 6)}},
		{"when x : a ; not v : c ; not u : b ; where u startedby ( 1 , 3 ) x ; where v startedby ( 2 , 7 ) x ;", api.Plan{Delay: 7, Whens: ints(8), Nots: ints(6, 7)}},
		{"when x : a ; not u : b ; not v : c ; where u before x ; where v startedby ( 2 , 7 ) x ;", api.Plan{Delay: 7, Whens: ints(8), Nots: ints(none, 6)}},
		{"when x : a ; not u : b ; not v : c ; where u starts ( 1 , 3 ) x ; where v starts ( 2 , 7 ) x ;", api.Plan{Whens: ints(1), Nots: ints(4, 8)}},
	} {
		wantPlan(t, c.parts, one(t, c.parts), 0, c.want, api.OK)
	}
}

// TestNotsThatCannotBe: P9.2: a not that can't be with the rule is needed for no time, and waited for neither.
func TestNotsThatCannotBe(t *testing.T) {
	const u = "not u : b ; "
	for _, c := range []struct {
		parts string
		want  api.Plan
	}{
		{"when x : a ; " + u + "where u meets ( 3 , 4 ) x ;", api.Plan{Whens: ints(1), Nots: ints(0)}},                                                          // by its option
		{"when x : a ; " + u + "where u starts x ; where u finishes x ;", api.Plan{Whens: ints(1), Nots: ints(0)}},                                              // by two links
		{"when x : a ; " + u + "where u after x ; where x after u ;", api.Plan{Whens: ints(1), Nots: ints(0)}},                                                  // one of which would be endless
		{"when x : a ; when y : c ; " + u + "where x starts ( 1 , 2 ) y ; where u equals x ; where u equals y ;", api.Plan{Whens: ints(3, 1), Nots: ints(0)}},   // by links of the whens
		{"when x : a over time 2 ; when y : c ; " + u + "where u equals x ; where u starts ( 3 , 5 ) y ;", api.Plan{Whens: ints(3, none), Nots: ints(0)}},       // by a window
		{"when x : a over time 3 ; when y : c ; " + u + "where u equals x ; where u starts ( 3 , 5 ) y ;", api.Plan{Whens: ints(4, none), Nots: ints(4)}},       // which just lets it be
		{"when x : a ; " + u + "not v : c ; where u meets ( 3 , 4 ) x ; where v startedby ( 2 , 7 ) x ;", api.Plan{Delay: 7, Whens: ints(8), Nots: ints(0, 6)}}, // beside one that is waited for
		{"when x : a ; not v : c ; " + u + "where u equals ( 1 , any ) x ; where v startedby ( 2 , 7 ) x ;", api.Plan{Delay: 7, Whens: ints(8), Nots: ints(6, 0)}},
		{"when x : a ; " + u + "not v : c ; where u meets ( 3 , 4 ) x ; where v equals ( 2 , 7 ) x ;", api.Plan{Whens: ints(1), Nots: ints(0, 0)}},
		{"when x : a ; " + u + "where u startedby ( 5 , 9 ) x ; where u startedby ( 1 , 4 ) x ;", api.Plan{Whens: ints(1), Nots: ints(0)}}, // it would be waited for
	} {
		wantPlan(t, c.parts, one(t, c.parts), 0, c.want, api.OK)
	}
}

// TestManies: P9.2: a many is needed for its N, and as long as the rule waits.
func TestManies(t *testing.T) {
	for _, c := range []struct {
		parts string
		want  api.Plan
	}{
		{"when x : a ; many 2 p : b within 4 ;", api.Plan{Whens: ints(1), Manies: ints(5)}},
		{"when x : a ; many 2 p : b within 0 ;", api.Plan{Whens: ints(1), Manies: ints(1)}},
		{"when x : a ; many 9 of n p : a within 4 ; many 1 q : b within 7 ;", api.Plan{Whens: ints(1), Manies: ints(5, 8)}},
		{"when x : a over time 3 ; when y : b ; many 2 p : b within 4 ;", api.Plan{Whens: ints(4, none), Manies: ints(5)}}, // a window is of whens alone
		{"when x : a ; when y : b ; many 2 p : b within 4 ;", api.Plan{Whens: ints(none, none), Manies: ints(5)}},
		{"when x : a ; not u : b ; many 2 p : b within 4 ; where u startedby ( 1 , 3 ) x ;", api.Plan{Delay: 3, Whens: ints(4), Nots: ints(3), Manies: ints(8)}},
		{"when x : a ; not u : b ; many 2 p : b within 4 ; where u starts ( 1 , 3 ) x ;", api.Plan{Whens: ints(1), Nots: ints(4), Manies: ints(5)}},
		{"when x : a over time 9 ; when y : b over last 7 ; when z : c ; not u : b ; not v : a ; many 2 p : b within 4 ; many 0 of n q : a within 11 ; " +
			"where u startedby ( 2 , 5 ) y ; where v before y ; where z startedby ( 1 , 6 ) y ; where x starts ( 3 , 5 ) z ; emit d ( ) ;",
			api.Plan{Delay: 4, Whens: ints(10, 11, 5), Nots: ints(9, none), Manies: ints(9, 16)}},
	} {
		wantPlan(t, c.parts, one(t, c.parts), 0, c.want, api.OK)
	}
}

// TestGreatest: P9.2, P9.4: the greatest bounds that a book may have.
func TestGreatest(t *testing.T) {
	g := fmt.Sprint(gap)
	chain := "when x : a over time " + g + " ; when y : b ; when z : c ; "
	links := "where x starts ( 0 , " + g + " ) y ; where y starts ( 0 , " + g + " ) z ; "
	for _, c := range []struct {
		parts   string
		want    api.Plan
		offsets []int
	}{
		{"when x : a ; not u : b ; many 1 p : c within " + g + " ; where u startedby ( 0 , " + g + " ) x ;",
			api.Plan{Delay: gap, Whens: ints(gap + 1), Nots: ints(gap), Manies: ints(2*gap + 1)}, ints(gap+1, gap, 2*gap+1, 0, 0)},
		{"when x : a ; when y : b ; when z : c ; not u : d ; not v : e ; many 1 p : e within " + g + " ; " + links +
			"where u starts ( 0 , " + g + " ) x ; where z starts ( 0 , " + g + " ) v ;",
			api.Plan{Delay: gap, Whens: ints(3*gap+1, 2*gap+1, gap+1), Nots: ints(4*gap+1, gap), Manies: ints(2*gap + 1)}, ints(3*gap+1, 2*gap+1, gap+1, 4*gap+1, 2*gap+1)},
		{chain + links, api.Plan{Whens: ints(gap+1, gap, 1)}, ints(gap+1, gap, 1, 0, 0)}, // x is at least 1 ahead of y
		{chain + "where x before ( " + g + " , any ) y ;", api.Plan{Whens: ints(gap+1, 1, none)}, ints(gap+1, 1, none, 0, 0)},
		{"when x : a ; not u : b ; where u startedby ( " + g + " , " + g + " ) x ;",
			api.Plan{Delay: gap, Whens: ints(gap + 1), Nots: ints(1)}, ints(gap+1, 1, 0, 0, 0)},
		{"when x : a ; when y : b ; when z : c ; not u : d ; where x starts ( " + g + " , any ) y ; where y starts ( " + g + " , any ) z ; where u starts ( " + g + " , " + g + " ) x ;",
			api.Plan{Whens: ints(none, none, 1), Nots: ints(none)}, ints(none, none, 1, none, 0)},
	} {
		b := one(t, c.parts)
		wantPlan(t, c.parts, b, 0, c.want, api.OK)
		wantOffsets(t, c.parts, b, c.offsets, api.OK)
	}
	b := one(t, chain+"where x before ( "+g+" , any ) y ; where y before z ;")
	wantPlan(t, "one more than the window", b, 0, api.Plan{}, api.ErrNever)
}

// TestNever: P9.1, P9.2: whens that never can be together, by links, by links and windows; and such that just can.
func TestNever(t *testing.T) {
	const two, three = "when x : a ; when y : b ; ", "when x : a ; when y : b ; when z : c ; "
	for _, parts := range []string{
		two + "where x meets ( 1 , 2 ) y ;", // by an option
		two + "where x equals ( 1 , any ) or metby ( 3 , 4 ) y ;",
		two + "where x before y ; where y before x ;",
		two + "where x before y ; where x after y ;",
		two + "where x during or equals y ; where y overlaps or starts x ; where x finishes y ;",
		two + "where x starts ( 1 , 3 ) y ; where x starts ( 4 , 9 ) y ;",
		three + "where x before y ; where y before z ; where z before x ;",
		three + "where x equals y ; where y equals z ; where x during z ;",
		three + "where y before z ; where z meets ( 1 , 1 ) y ;",
		three + "where z meets ( 1 , 1 ) y ; where y before z ;",
		"when x : a over time 0 ; when y : b ; where x before y ;",
		"when x : a ; when y : b over time 0 ; where x after y ;",
		"when x : a over time 2 ; when y : b ; where x starts ( 3 , 5 ) y ;",
		"when x : a over time 2 ; when y : b ; where x before ( 3 , any ) y ;",
		"when x : a over time 5 ; when y : b ; when z : c ; where x before ( 3 , any ) y ; where y before ( 3 , any ) z ;",
		"when z : c ; when x : a over time 5 ; when y : b ; where y before ( 3 , any ) z ; where x before ( 3 , any ) y ;",
		"when x : a over time 1 ; when y : b over time 1 ; when z : c over time 1 ; where x before y ; where y before z ;",
		two + "not u : c ; where x meets ( 1 , 2 ) y ; where u equals x ;",
		two + "not u : c ; where x meets ( 1 , 2 ) y ;", // it would be endless, too
		two + "not u : c ; where u meets ( 1 , 2 ) x ; where x before y ; where x after y ;",
		two + "not u : c ; many 2 p : a within 3 ; where u after x ; where x before y ; where x after y ;",
	} {
		b := one(t, parts)
		wantPlan(t, parts, b, 0, api.Plan{}, api.ErrNever)
		wantOffsets(t, parts, b, nil, api.ErrNever)
	}
	for parts, want := range map[string][]int{
		two + "where x meets ( 0 , 2 ) y ;":                                                                                ints(none, 1),
		two + "where x before or equals y ; where y before or equals x ;":                                                  ints(1, 1), // bounds that both allow equal ends
		two + "where x starts ( 1 , 3 ) y ; where x starts ( 3 , 9 ) y ;":                                                  ints(4, 1),
		"when x : a over time 1 ; when y : b ; where x before y ;":                                                         ints(2, 1),
		"when x : a ; when y : b over time 0 ; where x before y ;":                                                         ints(none, 1),
		"when x : a over time 3 ; when y : b ; where x starts ( 3 , 5 ) y ;":                                               ints(4, 1),
		"when x : a over time 3 ; when y : b ; where x before ( 3 , any ) y ;":                                             ints(4, 1),
		"when x : a over time 6 ; when y : b ; when z : c ; where x before ( 3 , any ) y ; where y before ( 3 , any ) z ;": ints(7, 4, 1),
	} {
		wantPlan(t, parts, one(t, parts), 0, api.Plan{Whens: want}, api.OK)
	}
}

// TestEndless: P9.2: a not that can be with the rule, and of which no bound is bounded.
func TestEndless(t *testing.T) {
	const x, xy = "when x : a ; not u : b ; ", "when x : a over time 3 ; when y : c over time 4 ; not u : b ; "
	for _, parts := range []string{
		x, // without a link
		x + "where u after x ;",
		x + "where u after ( 0 , 4 ) x ;", // its end is free
		x + "where u contains x ;",
		x + "where u contains ( 1 , 2 ) x ;",
		x + "where u metby x ;",
		x + "where u overlapped ( 1 , 2 ) x ;",
		x + "where u startedby x ;",
		x + "where u startedby ( 2 , any ) x ;",
		x + "where x starts u ;",
		x + "where u equals or after x ;",
		x + "where u startedby ( 1 , 2 ) or metby x ;",
		xy,
		xy + "where x equals y ;",
		xy + "where u after x ; where u after y ;",
		xy + "where u contains x ; where y before u ;",
		x + "not v : c ; where u equals x ;", // the second one alone
		x + "not v : c ; where v equals x ;", // the first one alone
		x + "not v : c ; where v meets ( 1 , 1 ) x ;",
		x + "not v : c ; where u meets ( 1 , 1 ) x ;",
		x + "not v : c ; many 3 p : a within 4 ; where u startedby ( 1 , 7 ) x ; where v after x ;",
	} {
		b := one(t, parts)
		wantPlan(t, parts, b, 0, api.Plan{}, api.ErrEndless)
		wantOffsets(t, parts, b, nil, api.ErrEndless)
	}
}

// rules for books of several: what may be, and what may not.
const (
	good    = " { when x : a ; not u : b ; where u startedby ( 1 , 3 ) x ; } "
	other   = " { when x : c over time 6 ; when y : c over time 8 ; many 2 p : b within 1 ; } "
	never   = " { when x : a ; when y : b ; where x meets ( 1 , 2 ) y ; } "
	endless = " { when x : a ; not u : b ; } "
)

// TestPlaces: P9.3: the rule at the place, and no other one; places that there are not.
func TestPlaces(t *testing.T) {
	b := read(t, types+"rule r"+good+"rule s"+other+"rule t"+never+"rule u"+endless+"rule v { when x : a ; many 4 p : d within 2 ; }")
	wants := []api.Plan{
		{Delay: 3, Whens: ints(4), Nots: ints(3)},
		{Whens: ints(7, 9), Manies: ints(2)},
		{},
		{},
		{Whens: ints(1), Manies: ints(3)},
	}
	errors := []api.Errno{api.OK, api.OK, api.ErrNever, api.ErrEndless, api.OK}
	for i, want := range wants {
		wantPlan(t, fmt.Sprint("rule ", i), b, i, want, errors[i])
	}
	for n := range b.Rules {
		few := api.Book{Types: b.Types, Rules: b.Rules[:n]}
		for _, at := range []int{-1, n, n + 1, -5, 1 << 20, math.MaxInt, math.MinInt} {
			wantPlan(t, fmt.Sprint(n, " rules, at ", at), few, at, api.Plan{}, api.ErrRange)
		}
	}
	for _, at := range []int{-1, 0, 1} {
		wantPlan(t, fmt.Sprint("an empty book, at ", at), api.Book{}, at, api.Plan{}, api.ErrRange)
	}
	only := api.Book{Types: b.Types, Rules: b.Rules[2:3]}
	wantPlan(t, "behind a rule that never can be", only, 1, api.Plan{}, api.ErrRange)
	wantPlan(t, "ahead of it", only, -1, api.Plan{}, api.ErrRange)
}

// TestOffsets: P9.4: for each type the greatest need of all its patterns.
func TestOffsets(t *testing.T) {
	for _, c := range []struct {
		rules string
		want  []int
	}{
		{"", ints(0, 0, 0, 0, 0)},
		{"rule r { when x : a ; }", ints(1, 0, 0, 0, 0)},
		{"rule r { when x : e ; }", ints(0, 0, 0, 0, 1)},
		{"rule r { when x : a ; emit b ( ) ; }", ints(1, 0, 0, 0, 0)}, // what is emitted is no pattern
		{"rule r" + good, ints(4, 3, 0, 0, 0)},
		{"rule r" + other, ints(0, 2, 9, 0, 0)},
		{"rule r" + good + "rule s" + other, ints(4, 3, 9, 0, 0)},
		{"rule r" + other + "rule s" + good, ints(4, 3, 9, 0, 0)},
		{"rule r { when x : a over time 6 ; when y : a over time 4 ; }", ints(7, 0, 0, 0, 0)}, // the first one of its patterns is the greatest
		{"rule r { when x : a over time 4 ; when y : a over time 6 ; }", ints(7, 0, 0, 0, 0)}, // the last one
		{"rule r { when x : a ; not u : a ; many 1 p : a within 3 ; where u equals x ; }", ints(4, 0, 0, 0, 0)},
		{"rule r { when x : a ; not u : a ; many 1 p : a within 3 ; where u starts ( 1 , 9 ) x ; }", ints(10, 0, 0, 0, 0)},
		{"rule r { when x : a ; not u : b ; not v : b ; many 1 p : c within 3 ; many 2 q : c within 2 ; where u starts ( 1 , 2 ) x ; where v starts ( 1 , 7 ) x ; }", ints(1, 8, 4, 0, 0)},
		{"rule r { when x : a ; not u : b ; where u meets ( 1 , 2 ) x ; }", ints(1, 0, 0, 0, 0)}, // a not that can't be
		{"rule r { when x : a ; when y : b ; where x before y ; }", ints(none, 1, 0, 0, 0)},
		{"rule r { when x : a ; when y : a ; where x before y ; }", ints(none, 0, 0, 0, 0)}, // None is the greatest
		{"rule r { when x : a ; when y : b ; where x before y ; } rule s { when x : b ; when y : a ; where x before y ; }", ints(none, none, 0, 0, 0)},
		{"rule r { when x : a ; when y : b ; where x before y ; } rule s { when x : a over time 9 ; when y : c over time 1 ; }", ints(none, 1, 2, 0, 0)}, // the first rule's
		{"rule s { when x : a over time 9 ; when y : c over time 1 ; } rule r { when x : a ; when y : b ; where x before y ; }", ints(none, 1, 2, 0, 0)}, // the last rule's
		{"rule r { when x : a ; not u : d ; where u before x ; } rule s { when x : d ; many 1 p : d within 1073741824 ; }", ints(1, 0, 0, none, 0)},
		{"rule r { when x : a ; } rule s { when x : a ; many 1 p : a within 5 ; } rule t { when x : a ; many 1 p : a within 3 ; }", ints(6, 0, 0, 0, 0)},
	} {
		wantOffsets(t, c.rules, read(t, types+c.rules), c.want, api.OK)
	}
	wantOffsets(t, "an empty book", api.Book{}, nil, api.OK)
	wantOffsets(t, "one type", api.Book{Types: []api.Type{{Name: "a"}}}, ints(0), api.OK)
	wantOffsets(t, "types the other way round", read(t, "rule r { when x : a ; many 1 p : b within 5 ; } type b { } type a { }"), ints(6, 1), api.OK)
}

// TestOffsetsFirst: P9.4: of several rules that may not be, the error of the first one.
func TestOffsetsFirst(t *testing.T) {
	names := []string{"r", "s", "t", "u", "v"}
	for _, c := range []struct {
		rules []string
		want  api.Errno
	}{
		{[]string{never, good, other}, api.ErrNever},
		{[]string{good, never, other}, api.ErrNever},
		{[]string{good, other, never}, api.ErrNever},
		{[]string{endless, good, other}, api.ErrEndless},
		{[]string{good, endless, other}, api.ErrEndless},
		{[]string{good, other, endless}, api.ErrEndless},
		{[]string{never, endless}, api.ErrNever},
		{[]string{endless, never}, api.ErrEndless},
		{[]string{good, endless, other, never, good}, api.ErrEndless},
		{[]string{good, never, other, endless, good}, api.ErrNever},
		{[]string{never, good, other, good, endless}, api.ErrNever},
		{[]string{endless, good, other, good, never}, api.ErrEndless},
	} {
		s := types
		for i, r := range c.rules {
			s += "rule " + names[i] + r
		}
		wantOffsets(t, s, read(t, s), nil, c.want)
	}
}

// TestRefused: P9.3, P9.4: what Check refuses is refused first, with the same error, whatever the place, and whatever the rules are.
func TestRefused(t *testing.T) {
	wrong := map[api.Errno]string{
		api.ErrSize:    "rule w { when x : a ; not u : a ; not v : a ; not w : a ; }",
		api.ErrRange:   "rule w { when x : a over last 0 ; }",
		api.ErrKind:    "", // spoilt below: no text has such a condition
		api.ErrNone:    "rule w { when x : zz ; }",
		api.ErrTwice:   "rule w { when x : a ; when x : b ; }",
		api.ErrForm:    "rule w { when x : a ; where x before x ; }",
		api.ErrOrder:   "rule w { when x : a ; when y : a ; where x before ( 3 , 2 ) y ; }",
		api.ErrType:    "rule w { when x : a [ n = \"s\" ] ; }",
		api.ErrEndless: "rule w { when x : a ; emit a ( 1 ) ; }",
	}
	for e, s := range wrong {
		for _, ahead := range []string{"", "rule r" + good, "rule r" + never, "rule r" + endless} {
			b := read(t, types+ahead+s)
			if e == api.ErrKind {
				b.Rules = append(b.Rules, api.Rule{Name: "w", Whens: []api.Pattern{{Var: "x", Type: "a", Where: api.Condition{Kind: 9}}}})
			}
			if got := check.Check(b); got != e {
				t.Fatalf("%s: Check: %v, not %v", s, got, e)
			}
			for _, at := range []int{0, len(b.Rules) - 1, -1, len(b.Rules), math.MaxInt, math.MinInt} {
				wantPlan(t, fmt.Sprint(ahead, s, " at ", at), b, at, api.Plan{}, e)
			}
			wantOffsets(t, ahead+s, b, nil, e)
		}
	}
	for what, b := range map[string]api.Book{
		"types":      {Types: make([]api.Type, api.MaxTypes+1)},
		"rules":      {Rules: make([]api.Rule, api.MaxRules+1)},
		"many rules": {Rules: make([]api.Rule, 1<<16)},
		"a rule":     {Rules: make([]api.Rule, 1)},
		"whens":      {Types: []api.Type{{Name: "a"}}, Rules: []api.Rule{{Name: "r", Whens: make([]api.Pattern, 7)}}},
	} {
		wantPlan(t, what, b, 0, api.Plan{}, check.Check(b))
		wantOffsets(t, what, b, nil, check.Check(b))
		if check.Check(b) == api.OK {
			t.Errorf("%s: not refused", what)
		}
	}
	open := one(t, "when x : a ; many 2 p : b within 0 ;")
	open.Rules[0].Manies[0].Pattern.Window = api.Open
	wantPlan(t, "a many without a window", open, 0, api.Plan{}, api.ErrForm)
	wantOffsets(t, "a many without a window", open, nil, api.ErrForm)
	// Offsets of a book beyond its limits is refused so, not by what its rules are.
	b := read(t, types+"rule r"+never)
	b.Rules = slices.Repeat(b.Rules, api.MaxRules+1)
	wantOffsets(t, "too many rules that never can be", b, nil, api.ErrSize)
}

// TestUnchanged: neither Rule nor Offsets changes the book that it is given, its spare room neither, nor keeps any of it; no two lists that come out share memory.
func TestUnchanged(t *testing.T) {
	whole := types + "rule r" + good + "rule s" + other + `rule q { when x : a [ n = 1 or not n < 3 ] over time 9 ; when y : b over last 7 ; when z : c ; not u : b ; not v : a ; many 2 p : b within 4 ; many 0 of n q : a within 11 ;
		where u startedby ( 2 , 5 ) or equals y ; where v before y ; where z startedby ( 1 , 6 ) y ; where x starts ( 3 , 5 ) z ; emit d ( ) ; } `
	for _, s := range []string{whole, whole + "rule t" + never, whole + "rule t" + endless, whole + "rule t { when x : zz ; }", ""} {
		b, was := roomy(read(t, s)), roomy(read(t, s))
		for at := -1; at <= len(b.Rules); at++ {
			p, e := Rule(b, at)
			again, f := Rule(b, at)
			if !sameRoom(reflect.ValueOf(b), reflect.ValueOf(was)) {
				t.Fatalf("%s: the book is changed", s)
			}
			if e != f || !alike(p, again) {
				t.Errorf("%s: %v, %v, then %v, %v", s, p, e, again, f)
			}
			apart(t, s, p.Whens, p.Nots, p.Manies, again.Whens, again.Nots, again.Manies)
		}
		l, e := Offsets(b)
		again, f := Offsets(b)
		if !sameRoom(reflect.ValueOf(b), reflect.ValueOf(was)) {
			t.Fatalf("%s: the book is changed", s)
		}
		if e != f || !slices.Equal(l, again) {
			t.Errorf("%s: %v, %v, then %v, %v", s, l, e, again, f)
		}
		apart(t, s, l, again)
	}
}

// apart: each list, its spare room too, is filled with a number of its own, which must stay.
func apart(t *testing.T, what string, lists ...[]int) {
	t.Helper()
	for i, l := range lists {
		for k := range l[:cap(l)] {
			l[:cap(l)][k] = -i - 1
		}
	}
	for i, l := range lists {
		if slices.ContainsFunc(l[:cap(l)], func(n int) bool { return n != -i-1 }) {
			t.Errorf("%s: list %d shares memory", what, i)
		}
	}
}

// roomy: a copy of a book, with spare room behind each list that is not empty itself.
func roomy(b api.Book) api.Book {
	return copied(reflect.ValueOf(b), 2).Interface().(api.Book)
}

// copied: a copy of all of a value, with so much spare room in its lists, filled with their first elements.
func copied(v reflect.Value, room int) reflect.Value {
	out := reflect.New(v.Type()).Elem()
	out.Set(v)
	switch v.Kind() {
	case reflect.Struct:
		for i := range v.NumField() {
			out.Field(i).Set(copied(v.Field(i), room))
		}
	case reflect.Slice:
		n := v.Len()
		if n == 0 {
			return reflect.Zero(v.Type())
		}
		out = reflect.MakeSlice(v.Type(), n+room, n+room)
		for i := range n + room {
			out.Index(i).Set(copied(v.Index(i%n), room))
		}
		return out.Slice(0, n)
	}
	return out
}

// sameRoom: are two values the same, in the spare room of their lists too?
func sameRoom(a, b reflect.Value) bool {
	switch a.Kind() {
	case reflect.Struct:
		for i := range a.NumField() {
			if !sameRoom(a.Field(i), b.Field(i)) {
				return false
			}
		}
		return true
	case reflect.Slice:
		if a.Len() != b.Len() || a.Cap() != b.Cap() {
			return false
		}
		for i := range a.Cap() {
			if !sameRoom(a.Slice(0, a.Cap()).Index(i), b.Slice(0, b.Cap()).Index(i)) {
				return false
			}
		}
		return true
	}
	return a.Interface() == b.Interface()
}

// TestNil: lists without elements may be nil or not.
func TestNil(t *testing.T) {
	b := one(t, "when x : a ;")
	r := &b.Rules[0]
	r.Nots, r.Manies, r.Links, r.Emit.Values = nil, nil, nil, nil
	wantPlan(t, "nil", b, 0, api.Plan{Whens: ints(1)}, api.OK)
	r.Nots, r.Manies, r.Links, r.Emit.Values = []api.Pattern{}, []api.Many{}, []api.Link{}, []api.Operand{}
	wantPlan(t, "empty", b, 0, api.Plan{Whens: ints(1)}, api.OK)
	wantOffsets(t, "no lists", api.Book{Types: []api.Type{}, Rules: []api.Rule{}}, nil, api.OK)
}

// TestNames: P9.1: a link finds its patterns by their whole names, not by those of types or rules.
func TestNames(t *testing.T) {
	long := strings.Repeat("x", api.MaxName)
	b := one(t, "when "+long+" : a ; when x : b ; when a : c ; not b : d ; where x starts ( 1 , 4 ) "+long+" ; where b startedby ( 1 , 2 ) x ; where a equals x ;")
	wantPlan(t, "names", b, 0, api.Plan{Delay: 1, Whens: ints(2, 6, 6), Nots: ints(5)}, api.OK)
	wantOffsets(t, "names", b, ints(2, 6, 6, 5, 0), api.OK)
}
