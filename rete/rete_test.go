package rete

import (
	"fmt"
	"math"
	"slices"
	"strings"
	"testing"

	"dotterel/api"
	"dotterel/check"
	"dotterel/join"
	"dotterel/lex"
	"dotterel/parse"
	"dotterel/plan"
	"dotterel/tick"
)

// types of the books that are written out in the tests.
const types = "type a { n : int } type b { s : text , n : int } type c { } type d { n : int , s : text , m : int , t : text } "

// read a book that is written out in a test.
func read(t *testing.T, s string) api.Book {
	t.Helper()
	l, place, e := lex.Cut(s)
	if e != api.OK {
		t.Fatalf("Cut(%q): %d, %v", s, place, e)
	}
	b, place, e := parse.Parse(l)
	if e != api.OK {
		t.Fatalf("Parse(%q): %d, %v", s, place, e)
	}
	return b
}

// one rule with these parts, in a book of its own.
func one(t *testing.T, parts string) api.Book {
	t.Helper()
	return read(t, types+"rule one { "+parts+" }")
}

func num(n int) api.Value { return api.Value{Kind: api.Int, Int: n} }

func text(s string) api.Value { return api.Value{Kind: api.Text, Text: s} }

// Events of the types that are written out, from a Start to an End.
func evA(number, start, end, n int) api.Event {
	return api.Event{Number: number, Type: 0, Span: api.Span{Start: start, End: end}, Values: []api.Value{num(n)}}
}

func evB(number, start, end int, s string, n int) api.Event {
	return api.Event{Number: number, Type: 1, Span: api.Span{Start: start, End: end}, Values: []api.Value{text(s), num(n)}}
}

func evC(number, start, end int) api.Event {
	return api.Event{Number: number, Type: 2, Span: api.Span{Start: start, End: end}}
}

func evD(number, start, end, n int, s string, m int, t string) api.Event {
	return api.Event{Number: number, Type: 3, Span: api.Span{Start: start, End: end}, Values: []api.Value{num(n), text(s), num(m), text(t)}}
}

// events: a list, told shortly.
func events(l ...api.Event) []api.Event { return l }

// came: events of these types, with Numbers from 1 on; each is just its End, so far from 0 on as its place.
func came(kinds string) []api.Event {
	var l []api.Event
	for i, k := range kinds {
		switch k {
		case 'a':
			l = append(l, evA(i+1, i, i, 0))
		case 'b':
			l = append(l, evB(i+1, i, i, "", 0))
		case 'c':
			l = append(l, evC(i+1, i, i))
		case 'd':
			l = append(l, evD(i+1, i, i, 0, "", 0, ""))
		}
	}
	return l
}

// judged: what the chapter asks for, word by word: of the tuples of the events up to each one those in which it is.
func judged(t *testing.T, b api.Book, rule int, l []api.Event) [][][]int {
	t.Helper()
	out := make([][][]int, len(l))
	for i, x := range l {
		tuples, e := join.Tuples(b, rule, l[:i+1])
		if e != api.OK {
			t.Fatalf("Tuples of %v: %v", l[:i+1], e)
		}
		for _, tuple := range tuples {
			if slices.Contains(tuple, x.Number) {
				out[i] = append(out[i], tuple)
			}
		}
	}
	return out
}

func same(a, b [][][]int) bool {
	return slices.EqualFunc(a, b, func(x, y [][]int) bool { return slices.EqualFunc(x, y, slices.Equal[[]int]) })
}

// told: what events make whole, as "2: 1 2, 2 1; 3: 1 3": the Number of each one that makes something whole, and the tuples.
func told(l []api.Event, fresh [][][]int) string {
	var out []string
	for i, tuples := range fresh {
		var texts []string
		for _, x := range tuples {
			texts = append(texts, strings.Trim(fmt.Sprint(x), "[]"))
		}
		if len(texts) > 0 {
			out = append(out, fmt.Sprint(l[i].Number, ": ", strings.Join(texts, ", ")))
		}
	}
	return strings.Join(out, "; ")
}

// wantRule: what events make whole of the rule at a place, in the form of told; and that the tests do not err there.
func wantRule(t *testing.T, what string, b api.Book, rule int, l []api.Event, fresh string) {
	t.Helper()
	got, e := Fresh(b, rule, l)
	if e != api.OK || len(got) != len(l) {
		t.Errorf("%s: of %v: %d of them, %v", what, l, len(got), e)
		return
	}
	if s := told(l, got); s != fresh {
		t.Errorf("%s: of %v: %s; want %s", what, l, s, fresh)
	}
	if s := told(l, judged(t, b, rule, l)); s != fresh {
		t.Errorf("%s: of %v: %s is wanted, but by join it is %s", what, l, fresh, s)
	}
}

// wantOne: what events make whole of the first rule of a book.
func wantOne(t *testing.T, what string, b api.Book, l []api.Event, fresh string) {
	t.Helper()
	wantRule(t, what, b, 0, l, fresh)
}

// wantRefused: an error, and nothing else.
func wantRefused(t *testing.T, what string, b api.Book, rule int, l []api.Event, wantE api.Errno) {
	t.Helper()
	if got, e := Fresh(b, rule, l); e != wantE || len(got) > 0 {
		t.Errorf("%s: rule %d: %v, %v; want %v", what, rule, got, e, wantE)
	}
}

// TestOneWhen: a rule of one when: each event that it takes makes itself whole, whatever comes behind it.
func TestOneWhen(t *testing.T) {
	l := events(evA(1, 0, 0, 3), evB(2, 0, 1, "s", 3), evA(3, 1, 1, 4), evC(4, 1, 2), evA(5, 0, 9, 3), evB(6, 0, 9, "t", 3))
	for parts, fresh := range map[string]string{
		"when x : a ;":                               "1: 1; 3: 3; 5: 5",
		"when x : b ;":                               "2: 2; 6: 6",
		"when x : c ;":                               "4: 4",
		"when x : d ;":                               "",
		"when x : a [ n = 3 ] ;":                     "1: 1; 5: 5",
		"when x : a [ n > 3 ] ;":                     "3: 3",
		"when x : a [ n > 4 ] ;":                     "",
		"when x : a [ n = n ] ;":                     "1: 1; 3: 3; 5: 5",
		"when x : a [ 3 /= n ] ;":                    "3: 3",
		"when x : c [ 1 = 1 ] ;":                     "4: 4",
		"when x : c [ 1 = 2 ] ;":                     "",
		`when x : b [ s = "t" and not n < 3 ] ;`:     "6: 6",
		`when x : b [ s = "t" or ( n = 3 ) ] ;`:      "2: 2; 6: 6",
		`when x : b [ not ( s = "t" or n = 4 ) ] ;`:  "2: 2",
		`when x : b [ not ( s = "t" and n = 3 ) ] ;`: "2: 2",
		// A window reaches back from the event itself.
		"when x : a over time 0 ;":           "1: 1; 3: 3; 5: 5",
		"when x : a over last 1 ;":           "1: 1; 3: 3; 5: 5",
		"when x : a [ n = 3 ] over last 1 ;": "1: 1; 5: 5",
	} {
		wantOne(t, parts, one(t, parts), l, fresh)
	}
}

// TestTwoWhens: whens of one type and of two; the event that comes last stands for the first when and for the last one.
func TestTwoWhens(t *testing.T) {
	same := one(t, "when x : a ; when y : a ;")
	wantOne(t, "one type", same, came("a"), "")
	wantOne(t, "one type", same, came("aa"), "2: 1 2, 2 1")
	wantOne(t, "one type", same, came("aba"), "3: 1 3, 3 1")
	wantOne(t, "one type", same, came("aaa"), "2: 1 2, 2 1; 3: 1 3, 2 3, 3 1, 3 2")
	wantOne(t, "two types", one(t, "when x : a ; when y : b ;"), came("abab"), "2: 1 2; 3: 3 2; 4: 1 4, 3 4")
	wantOne(t, "two types, the other way", one(t, "when x : b ; when y : a ;"), came("abab"), "2: 2 1; 3: 2 3; 4: 4 1, 4 3")
	wantOne(t, "the first when's last", one(t, "when x : a ; when y : b ;"), came("bbca"), "4: 4 1, 4 2")
	wantOne(t, "the last when's last", one(t, "when x : a ; when y : b ;"), came("aacb"), "4: 1 4, 2 4")
	wantOne(t, "one is missing", one(t, "when x : a ; when y : b ;"), came("aaca"), "")
	wantOne(t, "the other one is missing", one(t, "when x : a ; when y : b ;"), came("bcb"), "")
}

// TestThreeWhens: of one type and of several; the event that comes last stands for the first when, for the one in the middle and for the last one.
func TestThreeWhens(t *testing.T) {
	same := one(t, "when x : a ; when y : a ; when z : a ;")
	wantOne(t, "two events", same, came("aa"), "")
	wantOne(t, "three events", same, came("aaa"), "3: 1 2 3, 1 3 2, 2 1 3, 2 3 1, 3 1 2, 3 2 1")
	wantOne(t, "two types", one(t, "when x : a ; when y : b ; when z : a ;"), came("abab"), "3: 1 2 3, 3 2 1; 4: 1 4 3, 3 4 1")
	wantOne(t, "three types", one(t, "when x : c ; when y : a ; when z : b ;"), came("abcba"), "3: 3 1 2; 4: 3 1 4; 5: 3 5 2, 3 5 4")
	abc := one(t, "when x : a ; when y : b ; when z : c ;")
	wantOne(t, "the first when's last", abc, came("bcca"), "4: 4 1 2, 4 1 3")
	wantOne(t, "the first when's last", abc, came("cbca"), "4: 4 2 1, 4 2 3")
	wantOne(t, "the middle one's last", abc, came("acab"), "4: 1 4 2, 3 4 2")
	wantOne(t, "the middle one's last", abc, came("cacb"), "4: 2 4 1, 2 4 3")
	wantOne(t, "the last when's last", abc, came("abbc"), "4: 1 2 4, 1 3 4")
	wantOne(t, "the last when's last", abc, came("babc"), "4: 2 1 4, 2 3 4")
	for _, missing := range []string{"abab", "acca", "bccb"} {
		wantOne(t, "one is missing", abc, came(missing), "")
	}
}

// TestTwice: what would hold an event at more than one place is no tuple, whether or not it is the one that came last.
func TestTwice(t *testing.T) {
	l := events(evA(1, 0, 0, 1), evA(2, 0, 0, 2), evA(3, 0, 0, 3))
	for parts, fresh := range map[string]string{
		"when x : a [ n < 3 ] ; when y : a [ n > 1 ] ;":                        "2: 1 2; 3: 1 3, 2 3",
		"when x : a [ n = 2 ] ; when y : a [ n = 2 ] ;":                        "",
		"when x : a ; when y : a [ n = x . n ] ;":                              "",
		"when x : a ; when y : a ; when z : a [ n = x . n ] ;":                 "",
		"when x : a ; when y : a ; when z : a [ n = y . n ] ;":                 "",
		"when x : a ; when y : a [ n = x . n ] ; when z : a ;":                 "",
		"when x : a ; when y : a ; where x equals y ;":                         "2: 1 2, 2 1; 3: 1 3, 2 3, 3 1, 3 2",
		"when x : a [ n < 3 ] ; when y : a [ n < 3 ] ; when z : a [ n < 3 ] ;": "",
		"when x : a [ n < 3 ] ; when y : a [ n < 3 ] ; when z : a [ n > 1 ] ;": "3: 1 2 3, 2 1 3",
		"when x : a [ n > 1 ] ; when y : a [ n < 3 ] ; when z : a [ n < 3 ] ;": "3: 3 1 2, 3 2 1",
		"when x : a [ n < 3 ] ; when y : a [ n > 1 ] ; when z : a [ n < 3 ] ;": "3: 1 3 2, 2 3 1",
	} {
		wantOne(t, parts, one(t, parts), l, fresh)
	}
	// Events that are the same, but for their Numbers, are two.
	twins := events(evA(1, 0, 0, 1), evA(2, 0, 0, 1))
	wantOne(t, "twins", one(t, "when x : a ; when y : a [ n = x . n ] ;"), twins, "2: 1 2, 2 1")
}

// TestConditions: on the own event, and on those of the whens ahead.
func TestConditions(t *testing.T) {
	l := events(evA(1, 0, 0, 1), evB(2, 0, 0, "", 2), evA(3, 0, 0, 2), evB(4, 0, 0, "", 1), evA(5, 0, 0, 3))
	for parts, fresh := range map[string]string{
		"when x : a ; when y : b [ n = x . n ] ;":                                  "3: 3 2; 4: 1 4",
		"when x : a ; when y : b [ x . n = n ] ;":                                  "3: 3 2; 4: 1 4",
		"when x : a ; when y : b [ n /= x . n ] ;":                                 "2: 1 2; 4: 3 4; 5: 5 2, 5 4",
		"when x : a ; when y : b [ not n = x . n ] ;":                              "2: 1 2; 4: 3 4; 5: 5 2, 5 4",
		"when x : b ; when y : a [ n = x . n ] ;":                                  "3: 2 3; 4: 4 1",
		"when x : a ; when y : a [ x . n < n ] ;":                                  "3: 1 3; 5: 1 5, 3 5",
		"when x : a ; when y : a [ n < x . n ] ;":                                  "3: 3 1; 5: 5 1, 5 3",
		"when x : a [ n > 1 ] ; when y : a [ n = 1 or n > x . n ] ;":               "3: 3 1; 5: 3 5, 5 1",
		"when x : a ; when y : b [ n = x . n or n = 2 ] ;":                         "2: 1 2; 3: 3 2; 4: 1 4; 5: 5 2",
		"when x : a ; when y : b [ n = 2 and x . n = 1 ] ;":                        "2: 1 2",
		"when x : a ; when y : b [ n = x . n and n = 2 ] ;":                        "3: 3 2",
		"when x : a ; when y : b [ n = x . n and x . n = 1 ] ;":                    "4: 1 4",
		"when x : a ; when y : b [ n = 1 and n = 2 and n = x . n ] ;":              "",
		"when x : a ; when y : b ; when z : a [ n > x . n and n > y . n ] ;":       "4: 1 4 3; 5: 1 2 5, 1 4 5, 3 2 5, 3 4 5",
		"when x : a ; when y : b [ n = x . n ] ; when z : a [ n > y . n ] ;":       "4: 1 4 3; 5: 1 4 5, 3 2 5",
		"when x : a ; when y : a ; when z : b [ x . n < y . n and n = x . n ] ;":   "4: 1 3 4; 5: 1 5 4, 3 5 2",
		"when x : a ; when y : a ; when z : b [ n = y . n ] ;":                     "3: 1 3 2; 4: 3 1 4; 5: 5 1 4, 5 3 2",
		"when x : a ; when y : b ; when z : a [ x . n = y . n ] ;":                 "3: 3 2 1; 4: 1 4 3; 5: 1 4 5, 3 2 5",
		"when x : a ; when y : a [ n > x . n ] ; when z : a [ not n <= y . n ] ;":  "5: 1 3 5",
		"when x : b ; when y : b [ x . n > n ] ; when z : a [ n > x . n ] ;":       "5: 2 4 5",
		"when x : b ; when y : b [ x . n < n ] ; when z : a [ n < x . n ] ;":       "",
		"when x : a [ n = 3 ] ; when y : a [ n = 2 ] ; when z : a [ n = y . n ] ;": "",
	} {
		wantOne(t, parts, one(t, parts), l, fresh)
	}
}

// TestJoined: whens that join on the same values of several fields, of numbers and texts, with one when ahead and with two, in any form of the condition.
func TestJoined(t *testing.T) {
	l := events(
		evD(1, 0, 0, 1, "p", 2, "q"),
		evD(2, 0, 0, 1, "p", 2, "p"),
		evB(3, 0, 0, "p", 1),
		evD(4, 0, 0, 1, "p", 2, "q"),
		evB(5, 0, 0, "q", 2),
		evB(6, 0, 0, "q", 1),
		evD(7, 0, 0, 2, "q", 1, "p"),
	)
	for parts, fresh := range map[string]string{
		"when x : d ; when y : d [ n = x . n and s = x . s and m = x . m and t = x . t ] ;":         "4: 1 4, 4 1",
		"when x : d ; when y : d [ ( n = x . n and s = x . s ) and ( m = x . m and x . t = t ) ] ;": "4: 1 4, 4 1",
		"when x : d ; when y : d [ t = x . s ] ;":                                                   "2: 1 2; 4: 4 2; 7: 1 7, 2 7, 4 7, 7 1, 7 4",
		"when x : d ; when y : d [ n = x . m and m = x . n and s = x . t and t = x . s ] ;":         "7: 1 7, 4 7, 7 1, 7 4",
		"when x : d ; when y : d [ n = x . m and n = x . n ] ;":                                     "",
		"when x : d ; when y : d [ n = x . n and s = t and m = x . m ] ;":                           "2: 1 2; 4: 4 2",
		"when x : d ; when y : b [ s = x . s and n = x . n ] ;":                                     "3: 1 3, 2 3; 4: 4 3; 7: 7 5",
		"when x : b ; when y : d [ n = x . n and t = x . s ] ;":                                     "3: 3 2; 6: 6 1, 6 4",
		"when x : b ; when y : d [ n = x . n or t = x . s ] ;":                                      "3: 3 1, 3 2; 4: 3 4; 5: 5 1, 5 4; 6: 6 1, 6 2, 6 4; 7: 3 7, 5 7",
		"when x : b ; when y : d [ not ( n = x . n and t = x . s ) ] ;":                             "3: 3 1; 4: 3 4; 5: 5 1, 5 2, 5 4; 6: 6 2; 7: 3 7, 5 7, 6 7",
		"when x : b ; when y : b [ s = x . s ] ; when z : d [ n = x . n and m = y . n ] ;":          "6: 6 5 1, 6 5 2, 6 5 4; 7: 5 6 7",
		"when x : b ; when y : b ; when z : d [ s = x . s and s = y . s ] ;":                        "7: 5 6 7, 6 5 7",
		"when x : b ; when y : b ; when z : d [ t = y . s and t = x . s ] ;":                        "6: 5 6 1, 5 6 4, 6 5 1, 6 5 4",
		"when x : b ; when y : b ; when z : d [ n = x . n and n = y . n and s = y . s ] ;":          "6: 6 3 1, 6 3 2, 6 3 4",
		"when x : b ; when y : d [ s = x . s ] ; when z : d [ n = y . n and t = x . s ] ;":          "3: 3 1 2; 4: 3 4 2",
	} {
		wantOne(t, parts, one(t, parts), l, fresh)
	}
	// A text is not a number, and an empty one and 0 are values as others are.
	zero := events(evD(1, 0, 0, 0, "", 0, "0"), evB(2, 0, 0, "", 0), evB(3, 0, 0, "0", 1))
	wantOne(t, "empty", one(t, "when x : d ; when y : b [ s = x . s and n = x . n ] ;"), zero, "2: 1 2")
	wantOne(t, "not empty", one(t, "when x : d ; when y : b [ s = x . t ] ;"), zero, "3: 1 3")
	wantOne(t, "the greatest", one(t, "when x : a ; when y : a [ n = x . n ] ;"),
		events(evA(1, 0, 0, api.MaxInt), evA(2, 0, 0, -api.MaxInt), evA(3, 0, 0, api.MaxInt)), "3: 1 3, 3 1")
}

// words of the relations, by their numbers.
var words = []string{"", "before", "after", "meets", "metby", "overlaps", "overlapped", "starts", "startedby", "during", "contains", "finishes", "finishedby", "equals"}

// TestRelations: a link by each relation, either way round, of spans of which each relation holds: of the link's left one to its right one.
func TestRelations(t *testing.T) {
	x := api.Span{Start: 2, End: 5}
	for start := range 8 {
		for end := start; end < 8; end++ {
			y := api.Span{Start: start, End: end}
			l := events(evA(1, x.Start, x.End, 0), evB(2, y.Start, y.End, "", 0))
			ab, ba := "2: 1 2", "2: 2 1"
			if y.End < x.End {
				l = events(evB(1, y.Start, y.End, "", 0), evA(2, x.Start, x.End, 0))
				ab, ba = ba, ab
			}
			for k := api.Before; k <= api.Equals; k++ {
				for _, turned := range []bool{false, true} {
					link, left, right := "where x "+words[k]+" y ;", x, y
					if turned {
						link, left, right = "where y "+words[k]+" x ;", y, x
					}
					fresh := map[string]string{"when x : a ; when y : b ; ": ab, "when y : b ; when x : a ; ": ba}
					for whens, f := range fresh {
						if holds, _ := tick.Holds(k, left, right); !holds {
							f = ""
						}
						wantOne(t, whens+link, one(t, whens+link), l, f)
					}
				}
			}
		}
	}
}

// TestLinks: no link, one and several, with one option and with several.
func TestLinks(t *testing.T) {
	l := events(evA(1, 0, 4, 0), evB(2, 0, 4, "", 0), evB(3, 2, 5, "", 0), evB(4, 4, 6, "", 0), evB(5, 7, 7, "", 0), evB(6, 9, 9, "", 0))
	for links, fresh := range map[string]string{
		"":                                                            "2: 1 2; 3: 1 3; 4: 1 4; 5: 1 5; 6: 1 6",
		"where x equals y ;":                                          "2: 1 2",
		"where x overlaps y ;":                                        "3: 1 3",
		"where y overlapped x ;":                                      "3: 1 3",
		"where x meets y ;":                                           "4: 1 4",
		"where x before y ;":                                          "5: 1 5; 6: 1 6",
		"where y after x ;":                                           "5: 1 5; 6: 1 6",
		"where y before x ;":                                          "",
		"where x equals or meets y ;":                                 "2: 1 2; 4: 1 4",
		"where x before ( 0 , 3 ) y ;":                                "5: 1 5",
		"where x before ( 0 , 2 ) y ;":                                "",
		"where x before ( 4 , any ) y ;":                              "6: 1 6",
		"where x before ( 5 , 5 ) y ;":                                "6: 1 6",
		"where x before ( 6 , any ) y ;":                              "",
		"where x overlaps ( 2 , 2 ) y ;":                              "3: 1 3",
		"where x overlaps ( 3 , 9 ) y ;":                              "",
		"where x meets or before ( 4 , 9 ) y ;":                       "4: 1 4; 6: 1 6",
		"where x before y ; where x before ( 4 , any ) y ;":           "6: 1 6",
		"where x before y ; where y after ( 0 , 4 ) x ;":              "5: 1 5",
		"where x equals y ; where x before y ;":                       "",
		"where x before or meets y ; where y metby or overlapped x ;": "4: 1 4",
	} {
		wantOne(t, links, one(t, "when x : a ; when y : b ; "+links), l, fresh)
	}
	full := "when x : a ; when y : b ;" + strings.Repeat("where x before ( 3 , any ) y ;", api.MaxLinks-1)
	wantOne(t, "as many as may be, the last one", one(t, full+"where y after ( 0 , 4 ) x ;"), l, "5: 1 5")
	wantOne(t, "as many as may be, the last one", one(t, full+"where x equals y ;"), l, "")
}

// TestLinksOfThree: links between any two of three whens, in either order; the event that comes last may be at any place.
func TestLinksOfThree(t *testing.T) {
	l := events(evA(1, 0, 0, 0), evA(2, 2, 2, 0), evA(3, 5, 5, 0), evA(4, 9, 9, 0))
	whens := "when x : a ; when y : a ; when z : a ; "
	for links, fresh := range map[string]string{
		"where x before y ; where y before z ;":                   "3: 1 2 3; 4: 1 2 4, 1 3 4, 2 3 4",
		"where z before y ; where y before x ;":                   "3: 3 2 1; 4: 4 2 1, 4 3 1, 4 3 2",
		"where x before z ; where z before y ;":                   "3: 1 3 2; 4: 1 4 2, 1 4 3, 2 4 3",
		"where x after z ; where z after y ;":                     "3: 3 1 2; 4: 4 1 2, 4 1 3, 4 2 3",
		"where y before ( 3 , 3 ) z ;":                            "3: 1 2 3; 4: 4 2 3",
		"where z after ( 3 , 3 ) y ;":                             "3: 1 2 3; 4: 4 2 3",
		"where x before ( 9 , any ) z ;":                          "4: 1 2 4, 1 3 4",
		"where x after ( 9 , any ) z ;":                           "4: 4 2 1, 4 3 1",
		"where x before ( 3 , 3 ) y ;":                            "3: 2 3 1; 4: 2 3 4",
		"where y after ( 3 , 3 ) x ; where z after ( 4 , 4 ) y ;": "4: 2 3 4",
		"where x equals y ;":                                      "",
		"where y equals z ;":                                      "",
		"where x equals z ;":                                      "",
	} {
		wantOne(t, links, one(t, whens+links), l, fresh)
	}
}

// TestNots: neither nots nor manies, nor links that speak of a not, nor an emit, nor how long the rule waits, are asked.
func TestNots(t *testing.T) {
	l := came("abcab")
	for _, parts := range []string{
		"not u : a ;",
		"not u : a ; where u equals x ; where x equals u ;",
		"not u : c ; where u during y ; where x before ( 9 , 9 ) u ;",
		"not u : b ; not v : a ; where u equals x ; where y equals v ; where v equals x ;",
		"many 120 p : a within 0 ;",
		"many 9 of n p : a within 0 ; many 1 q : c [ 1 = 2 ] within 3 ;",
		"emit c ( ) ;",
		"not u : b [ n = y . n ] ; where u before or equals x ; many 2 p : a [ n = 1 ] within 0 ;",
	} {
		wantOne(t, parts, one(t, "when x : a ; when y : b ; "+parts), l, "2: 1 2; 4: 4 2; 5: 1 5, 4 5")
	}
	wantOne(t, "beside", one(t, "when x : a ; when y : b ; not u : c ; where u equals x ; where y before x ; where y equals u ;"), l, "4: 4 2")
}

// TestTime: an End just N ahead of that of the event that comes last, and one more: of any when.
func TestTime(t *testing.T) {
	l := events(evA(1, 0, 0, 0), evA(2, 0, 3, 0), evB(3, 0, 5, "", 0), evA(4, 4, 7, 0), evB(5, 0, 8, "", 0), evC(6, 9, 9))
	for parts, fresh := range map[string]string{
		"when x : a over time 0 ; when y : b ;":             "4: 4 3",
		"when x : a over time 1 ; when y : b ;":             "4: 4 3; 5: 4 5",
		"when x : a over time 2 ; when y : b ;":             "3: 2 3; 4: 4 3; 5: 4 5",
		"when x : a over time 4 ; when y : b ;":             "3: 2 3; 4: 4 3; 5: 4 5",
		"when x : a over time 5 ; when y : b ;":             "3: 1 3, 2 3; 4: 4 3; 5: 2 5, 4 5",
		"when x : a over time 7 ; when y : b ;":             "3: 1 3, 2 3; 4: 4 3; 5: 2 5, 4 5",
		"when x : a over time 8 ; when y : b ;":             "3: 1 3, 2 3; 4: 4 3; 5: 1 5, 2 5, 4 5",
		"when x : a ; when y : b over time 1 ;":             "3: 1 3, 2 3; 5: 1 5, 2 5, 4 5",
		"when x : a ; when y : b over time 2 ;":             "3: 1 3, 2 3; 4: 4 3; 5: 1 5, 2 5, 4 5",
		"when x : b over time 1 ; when y : a ;":             "3: 3 1, 3 2; 5: 5 1, 5 2, 5 4",
		"when x : b ; when y : a over time 4 ;":             "3: 3 2; 4: 3 4; 5: 5 4",
		"when x : a over time 5 ; when y : b over time 1 ;": "3: 1 3, 2 3; 5: 2 5, 4 5",
		"when x : a over time 0 ; when y : b over time 0 ;": "",
		// The event that comes last may be that of any when.
		"when x : a over time 9 ; when y : b over time 1 ; when z : c over time 0 ;": "6: 1 5 6, 2 5 6, 4 5 6",
		"when x : a over time 6 ; when y : b over time 4 ; when z : c ;":             "6: 2 3 6, 2 5 6, 4 3 6, 4 5 6",
		"when x : a over time 6 ; when y : b over time 3 ; when z : c ;":             "6: 2 5 6, 4 5 6",
		"when x : c ; when y : a over time 8 ; when z : b over time 1 ;":             "6: 6 2 5, 6 4 5",
		"when x : a over time 6 ; when y : c ; when z : b over time 4 ;":             "6: 2 6 3, 2 6 5, 4 6 3, 4 6 5",
		"when x : a over time 4 ; when y : a over time 0 ; when z : b over time 2 ;": "4: 2 4 3",
		"when x : a over time 3 ; when y : a over time 0 ; when z : b over time 2 ;": "",
	} {
		wantOne(t, parts, one(t, parts), l, fresh)
	}
	// It is the End that counts, not the Start; and the greatest N.
	far := events(evA(1, 0, 0, 0), evA(2, 0, api.MaxGap, 0), evA(3, 0, api.MaxGap+1, 0))
	wantOne(t, "the greatest N", one(t, "when x : a over time 1073741824 ; when y : a over time 0 ;"), far, "2: 1 2; 3: 2 3")
	ends := events(evA(1, 0, 0, 0), evA(2, 0, api.MaxTime, 0))
	wantOne(t, "all of time", one(t, "when x : a over time 1073741824 ; when y : a ;"), ends, "2: 2 1")
	alike := events(evA(1, 0, 2, 0), evA(2, 2, 2, 0), evB(3, 1, 2, "", 0), evA(4, 3, 3, 0))
	wantOne(t, "Ends alike", one(t, "when x : a over time 0 ; when y : b over time 0 ;"), alike, "3: 1 3, 2 3")
	wantOne(t, "Ends alike", one(t, "when x : a over time 0 ; when y : a over time 0 ;"), alike, "2: 1 2, 2 1")
}

// TestLast: just N - 1 and just N events of its type behind an event, up to the one that comes last: of any when.
func TestLast(t *testing.T) {
	l := came("aabaaba")
	for parts, fresh := range map[string]string{
		"when x : a over last 1 ; when y : b ;":             "3: 2 3; 4: 4 3; 5: 5 3; 6: 5 6; 7: 7 3, 7 6",
		"when x : a over last 2 ; when y : b ;":             "3: 1 3, 2 3; 4: 4 3; 5: 5 3; 6: 4 6, 5 6; 7: 7 3, 7 6",
		"when x : a over last 3 ; when y : b ;":             "3: 1 3, 2 3; 4: 4 3; 5: 5 3; 6: 2 6, 4 6, 5 6; 7: 7 3, 7 6",
		"when x : a over last 4 ; when y : b ;":             "3: 1 3, 2 3; 4: 4 3; 5: 5 3; 6: 1 6, 2 6, 4 6, 5 6; 7: 7 3, 7 6",
		"when x : a ; when y : b over last 1 ;":             "3: 1 3, 2 3; 4: 4 3; 5: 5 3; 6: 1 6, 2 6, 4 6, 5 6; 7: 7 6",
		"when x : b ; when y : a over last 1 ;":             "3: 3 2; 4: 3 4; 5: 3 5; 6: 6 5; 7: 3 7, 6 7",
		"when x : b over last 1 ; when y : b ;":             "6: 6 3",
		"when x : b over last 2 ; when y : b over last 1 ;": "6: 3 6",
		"when x : b over last 1 ; when y : b over last 1 ;": "",
		"when x : a over last 2 ; when y : a over last 1 ;": "2: 1 2; 4: 2 4; 5: 4 5; 7: 5 7",
		"when x : a over last 1 ; when y : a over last 2 ;": "2: 2 1; 4: 4 2; 5: 5 4; 7: 7 5",
		// The event that comes last may be that of any when.
		"when x : a over last 1 ; when y : a over last 2 ; when z : b ;":             "3: 2 1 3; 4: 4 2 3; 5: 5 4 3; 6: 5 4 6; 7: 7 5 3, 7 5 6",
		"when x : a over last 1 ; when y : b ; when z : b over last 1 ;":             "6: 5 3 6; 7: 7 3 6",
		"when x : b over last 1 ; when y : b over last 2 ; when z : a over last 1 ;": "6: 6 3 5; 7: 6 3 7",
		"when x : a over last 3 ; when y : a over last 2 ; when z : a over last 1 ;": "4: 1 2 4; 5: 2 4 5; 7: 4 5 7",
		"when x : b over last 2 ; when y : a over last 1 ; when z : b over last 1 ;": "6: 3 5 6; 7: 3 7 6",
	} {
		wantOne(t, parts, one(t, parts), l, fresh)
	}
	// All events of its type are counted, those that the when takes and those that it does not; those of other types are not.
	l = events(evA(1, 0, 0, 7), evA(2, 0, 0, 0), evB(3, 0, 0, "", 0), evC(4, 0, 0), evA(5, 0, 0, 7), evC(6, 0, 0))
	for parts, fresh := range map[string]string{
		"when x : a [ n = 7 ] over last 1 ; when y : c ;": "5: 5 4; 6: 5 6",
		"when x : a [ n = 7 ] over last 2 ; when y : c ;": "4: 1 4; 5: 5 4; 6: 5 6",
		"when x : a [ n = 7 ] over last 3 ; when y : c ;": "4: 1 4; 5: 5 4; 6: 1 6, 5 6",
		"when x : a [ n = 0 ] over last 1 ; when y : b ;": "3: 2 3",
		"when x : a [ n = 7 ] over last 2 ; when y : a ;": "2: 1 2; 5: 5 1, 5 2",
	} {
		wantOne(t, parts, one(t, parts), l, fresh)
	}
}

// TestClosedLater: a tuple that an event makes whole, though a later one closes the window; with that later one it is none any more.
func TestClosedLater(t *testing.T) {
	l := events(evA(1, 0, 0, 0), evB(2, 0, 2, "", 0), evA(3, 0, 3, 0), evA(4, 0, 3, 0), evB(5, 9, 9, "", 0), evC(6, 20, 20))
	for parts, fresh := range map[string]string{
		"when x : a over time 2 ; when y : b ;":               "2: 1 2; 3: 3 2; 4: 4 2",
		"when x : a over time 6 ; when y : b ;":               "2: 1 2; 3: 3 2; 4: 4 2; 5: 3 5, 4 5",
		"when x : a over last 1 ; when y : b ;":               "2: 1 2; 3: 3 2; 4: 4 2; 5: 4 5",
		"when x : a over last 2 ; when y : b ;":               "2: 1 2; 3: 3 2; 4: 4 2; 5: 3 5, 4 5",
		"when x : a ; when y : b over last 1 ;":               "2: 1 2; 3: 3 2; 4: 4 2; 5: 1 5, 3 5, 4 5",
		"when x : a over last 1 ;":                            "1: 1; 3: 3; 4: 4",
		"when x : a over time 2 ; when y : b ; when z : c ;":  "",
		"when x : a over time 20 ; when y : b ; when z : c ;": "6: 1 2 6, 1 5 6, 3 2 6, 3 5 6, 4 2 6, 4 5 6",
		"when x : a over time 19 ; when y : b ; when z : c ;": "6: 3 2 6, 3 5 6, 4 2 6, 4 5 6",
		"when x : a over last 1 ; when y : b ; when z : c ;":  "6: 4 2 6, 4 5 6",
	} {
		wantOne(t, parts, one(t, parts), l, fresh)
	}
}

// TestNone: no events, and rules that are never made whole.
func TestNone(t *testing.T) {
	for _, parts := range []string{"when x : a ;", "when x : a ; when y : a ;", "when x : a ; when y : b ; when z : c ; where x before z ;"} {
		for _, l := range [][]api.Event{nil, {}} {
			if got, e := Fresh(one(t, parts), 0, l); e != api.OK || len(got) != 0 {
				t.Errorf("no events: %v, %v", got, e)
			}
		}
	}
	never := one(t, "when x : a ; when y : b ; where x meets ( 1 , 2 ) y ;")
	if _, e := plan.Rule(never, 0); e != api.ErrNever {
		t.Fatal(e)
	}
	wantOne(t, "never", never, came("abcab"), "")
	wantOne(t, "no such events", one(t, "when x : d ; when y : a ;"), came("abcab"), "")
	wantOne(t, "both may not be", one(t, "when x : a ; when y : a [ n < x . n and n > x . n ] ;"), came("aaaa"), "")
}

// TestGaps: Numbers that do not stand one behind the other: tuples are told by them, and windows do not count what is not there.
func TestGaps(t *testing.T) {
	l := events(evA(7, 0, 0, 0), evB(50, 0, 0, "", 0), evA(900, 1, 1, 0), evA(api.MaxCount, 2, 2, 0))
	for parts, fresh := range map[string]string{
		"when x : a ;":                                       "7: 7; 900: 900; 1048576: 1048576",
		"when x : a ; when y : b ;":                          "50: 7 50; 900: 900 50; 1048576: 1048576 50",
		"when x : a ; when y : a ;":                          "900: 7 900, 900 7; 1048576: 7 1048576, 900 1048576, 1048576 7, 1048576 900",
		"when x : a over last 2 ; when y : a ;":              "900: 7 900, 900 7; 1048576: 900 1048576, 1048576 7, 1048576 900",
		"when x : a over last 3 ; when y : b over last 1 ;":  "50: 7 50; 900: 900 50; 1048576: 1048576 50",
		"when x : b ; when y : a ; when z : a over last 1 ;": "900: 50 7 900; 1048576: 50 7 1048576, 50 900 1048576",
	} {
		wantOne(t, parts, one(t, parts), l, fresh)
	}
}

// TestRules: each rule of as many as may be has its own tuples; a rule that there is not, below and above.
func TestRules(t *testing.T) {
	s := types
	var l []api.Event
	for i := range api.MaxRules {
		s += fmt.Sprint("rule r", i, " { when x : a [ n = ", i, " ] ; } ")
		l = append(l, evA(10+i, 0, 0, i))
	}
	b := read(t, s)
	for i := range api.MaxRules {
		wantRule(t, "a rule", b, i, l, fmt.Sprint(10+i, ": ", 10+i))
	}
	for n := range api.MaxRules + 1 {
		fewer := b
		fewer.Rules = b.Rules[:n]
		for _, rule := range []int{-1, -2, math.MinInt, n, n + 1, 1 << 32, math.MaxInt} {
			wantRefused(t, "no rule", fewer, rule, l, api.ErrRange)
			wantRefused(t, "no rule, no events", fewer, rule, nil, api.ErrRange)
		}
	}
	wantRefused(t, "nothing at all", api.Book{}, 0, nil, api.ErrRange)
}

// TestBooks: a book that Check refuses, with each error, whatever else is wrong.
func TestBooks(t *testing.T) {
	seen := map[api.Errno]bool{}
	for what, b := range map[string]api.Book{
		"types":       {Types: make([]api.Type, api.MaxTypes+1)},
		"rules":       {Rules: make([]api.Rule, api.MaxRules+1)},
		"no name":     {Types: make([]api.Type, 1)},
		"kept":        {Types: []api.Type{{Name: "when"}}},
		"kind":        {Types: []api.Type{{Name: "a", Fields: []api.Field{{Name: "n", Kind: 3}}}}},
		"twice":       read(t, "type a { } type a { }"),
		"no type":     read(t, "type a { } rule r { when x : b ; }"),
		"no whens":    {Rules: []api.Rule{{Name: "r"}}},
		"a later one": read(t, "type a { } rule r { when x : a ; } rule s { when x : b ; }"),
		"time":        read(t, "type a { } rule r { when x : a over time 2000000000 ; }"),
		"last":        read(t, "type a { } rule r { when x : a over last 0 ; }"),
		"side":        read(t, "type a { n : int } rule r { when x : a [ n = \"\" ] ; }"),
		"no other":    read(t, "type a { n : int } rule r { when x : a [ n = y . n ] ; when y : a ; }"),
		"itself":      read(t, "type a { n : int } rule r { when x : a [ n = x . n ] ; }"),
		"no field":    read(t, "type a { n : int } rule r { when x : a ; when y : a [ n = x . m ] ; }"),
		"no link":     read(t, "type a { } rule r { when x : a ; where x before y ; }"),
		"order":       read(t, "type a { } rule r { when x : a ; when y : a ; where x before ( 3 , 2 ) y ; }"),
		"endless":     read(t, "type a { } rule r { when x : a ; emit a ( ) ; }"),
	} {
		e := check.Check(b)
		if e == api.OK {
			t.Errorf("%s: not refused", what)
		}
		seen[e] = true
		for _, l := range [][]api.Event{nil, events(api.Event{Number: 1}), make([]api.Event, 1), make([]api.Event, api.MaxLive+1)} {
			for _, rule := range []int{0, -1, len(b.Rules), math.MaxInt} {
				wantRefused(t, what, b, rule, l, e)
			}
		}
	}
	for _, e := range []api.Errno{api.ErrSize, api.ErrRange, api.ErrKind, api.ErrForm, api.ErrNone, api.ErrTwice, api.ErrType, api.ErrOrder, api.ErrEndless} {
		if !seen[e] {
			t.Errorf("no book is refused with %v", e)
		}
	}
}

// spoilt event.
type spoilt struct {
	x api.Event
	e api.Errno
}

// spoiltAll: events that CheckEvent refuses, with this Number and End, where these are not what is wrong.
func spoiltAll(number, end int) []spoilt {
	with := func(e api.Errno, change func(x *api.Event)) spoilt {
		x := evB(number, 0, end, "s", 1)
		change(&x)
		return spoilt{x, e}
	}
	return []spoilt{
		with(api.ErrRange, func(x *api.Event) { x.Number = 0 }),
		with(api.ErrRange, func(x *api.Event) { x.Number = -number }),
		with(api.ErrRange, func(x *api.Event) { x.Number = api.MaxCount + 1 }),
		with(api.ErrNone, func(x *api.Event) { x.Type = -1 }),
		with(api.ErrNone, func(x *api.Event) { x.Type = 4 }),
		with(api.ErrNone, func(x *api.Event) { x.Type = math.MaxInt }),
		with(api.ErrRange, func(x *api.Event) { x.Span.Start = -1 }),
		with(api.ErrRange, func(x *api.Event) { x.Span.End = api.MaxTime + 1 }),
		with(api.ErrOrder, func(x *api.Event) { x.Span.Start = end + 1 }),
		with(api.ErrType, func(x *api.Event) { x.Values = nil }),
		with(api.ErrType, func(x *api.Event) { x.Values = append(x.Values, num(1)) }),
		with(api.ErrType, func(x *api.Event) { slices.Reverse(x.Values) }),
		with(api.ErrRange, func(x *api.Event) { x.Values[1] = num(api.MaxInt + 1) }),
		with(api.ErrSize, func(x *api.Event) { x.Values[0] = text(strings.Repeat("s", api.MaxText+1)) }),
		with(api.ErrForm, func(x *api.Event) { x.Values[0].Int = 1 }),
		with(api.ErrKind, func(x *api.Event) { x.Values[0].Kind = 3 }),
	}
}

// TestSpoiltEvents: what CheckEvents refuses, the first event and each later one, whatever the rule; what was made whole ahead of it is not told.
func TestSpoiltEvents(t *testing.T) {
	b := one(t, "when x : a ;")
	refused := func(what string, l []api.Event, e api.Errno) {
		t.Helper()
		if got := join.CheckEvents(b, l); got != e {
			t.Fatalf("CheckEvents of %v: %v, not %v", l, got, e)
		}
		for _, rule := range []int{0, -1, 1, math.MinInt, math.MaxInt} {
			wantRefused(t, what, b, rule, l, e)
		}
	}
	fine := came("abcab")
	for at := range fine {
		for _, s := range spoiltAll(fine[at].Number, fine[at].Span.End) {
			l := slices.Clone(fine)
			l[at] = s.x
			refused(fmt.Sprint("a spoilt event at ", at), l, s.e)
			refused(fmt.Sprint("a spoilt event, the last one at ", at), l[:at+1], s.e)
		}
	}
	refused("a Number twice", events(evA(1, 0, 0, 0), evA(1, 0, 0, 0)), api.ErrState)
	refused("a Number that goes back", events(evA(1, 0, 0, 0), evA(3, 0, 0, 0), evC(2, 0, 0)), api.ErrState)
	refused("an End that goes back", events(evA(1, 0, 1, 0), evA(2, 0, 2, 0), evC(3, 0, 1)), api.ErrState)
	refused("too many", came(strings.Repeat("a", api.MaxLive+1)), api.ErrSize)
	refused("too many, none of which may be", make([]api.Event, 2*api.MaxLive), api.ErrSize)
}

// TestFirstError: where several errors apply, the one that is named first is told: all is wrong, and mended one after another.
func TestFirstError(t *testing.T) {
	good, bad := one(t, "when x : a ;"), one(t, "when x : a ;")
	bad.Types[0].Name = "A"
	l := came(strings.Repeat("a", api.MaxLive+1))
	l[0].Type = 9
	l[1] = evA(1, 4, 3, 0)
	wantRefused(t, "all is wrong", bad, 1, l, api.ErrForm)
	wantRefused(t, "how many events", good, 1, l, api.ErrSize)
	l = l[:api.MaxLive]
	wantRefused(t, "the first event", good, 1, l, api.ErrNone)
	l[0].Type = 0
	wantRefused(t, "the second one", good, 1, l, api.ErrOrder)
	l[1] = evA(1, 0, 1, 0)
	wantRefused(t, "its state", good, 1, l, api.ErrState)
	l[1].Number = 2
	wantRefused(t, "the rule, above", good, 1, l, api.ErrRange)
	wantRefused(t, "the rule, below", good, -1, l, api.ErrRange)
	wantOne(t, "nothing", good, l[:3], "1: 1; 2: 2; 3: 3")
}
