package network

import (
	"slices"
	"testing"

	"dotterel/api"
	"dotterel/lex"
	"dotterel/parse"
)

// types of the books that are written out in the tests.
const types = "type a { n : int } type b { s : text , n : int } type c { } type d { n : int , s : text , m : int , t : text } "

// one rule with these parts, in a book of its own.
func one(t *testing.T, rule string) api.Book {
	t.Helper()
	l, _, e := lex.Cut(types + "rule one { " + rule + " }")
	if e != api.OK {
		t.Fatalf("Cut(%q): %v", rule, e)
	}
	b, _, e := parse.Parse(l)
	if e != api.OK {
		t.Fatalf("Parse(%q): %v", rule, e)
	}
	return b
}

func num(n int) api.Value { return api.Value{Kind: api.Int, Int: n} }

func text(s string) api.Value { return api.Value{Kind: api.Text, Text: s} }

// Events of the types that are written out, that end at a time.
func evA(number, end, n int) api.Event {
	return api.Event{Number: number, Type: 0, Span: api.Span{Start: end, End: end}, Values: []api.Value{num(n)}}
}

func evB(number, end int, s string, n int) api.Event {
	return api.Event{Number: number, Type: 1, Span: api.Span{Start: end, End: end}, Values: []api.Value{text(s), num(n)}}
}

func evD(number int, n int, s string, m int, t string) api.Event {
	return api.Event{Number: number, Type: 3, Values: []api.Value{num(n), text(s), num(m), text(t)}}
}

// networkOf the first rule of a book, with these events.
func networkOf(b api.Book, l ...api.Event) *Network {
	n := New(b.Types, b.Rules[0])
	for _, x := range l {
		n.Take(x)
	}
	return n
}

// waits: how many events and tokens wait at a node.
func waits(d node) (events, tokens int) {
	for _, l := range d.events {
		events += len(l)
	}
	for _, l := range d.tokens {
		tokens += len(l)
	}
	return events, tokens
}

// TestKeys: events and tokens wait at the second when by what it joins on: as many groups as there are such values, and one where it joins on nothing.
func TestKeys(t *testing.T) {
	l := []api.Event{evD(1, 1, "p", 1, "p"), evD(2, 1, "q", 1, "p"), evD(3, 2, "p", 1, "p"), evD(4, 2, "p", 1, "q")}
	for where, groups := range map[string]int{
		"n = n":                            1,
		"n = 2":                            1,
		"n < x . n":                        1,
		"n /= x . n":                       1,
		"x . n = 1":                        1,
		"x . n = x . m":                    1,
		"not n = x . n":                    1,
		"n = x . n or s = x . s":           1,
		"n = x . n":                        2,
		"x . n = n":                        2,
		"s = x . s":                        2,
		"m = x . m":                        1,
		"n = x . n and s = x . s":          3,
		"n = x . n and ( s = x . s )":      3,
		"n = x . n and not s = x . s":      2,
		"n = x . n and t = x . t":          3,
		"x . s = s and x . t = t":          3,
		"n = x . n and s = s and s < \"\"": 2,
		"n = x . n and s = x . s and m = x . m and x . t = t": 4,
	} {
		n := networkOf(one(t, "when x : d ; when y : d [ "+where+" ] ;"), l...)
		if got := len(n.nodes[1].tokens); got != groups {
			t.Errorf("%s: %d groups of tokens, want %d", where, got, groups)
		}
		kept, _ := waits(n.nodes[1])
		for _, tokens := range n.nodes[1].tokens {
			for _, x := range tokens {
				if len(x) != 1 {
					t.Errorf("%s: %v is no token ahead of the second when", where, x.numbers())
				}
			}
		}
		if got := len(n.nodes[1].events); kept == len(l) && got != groups {
			t.Errorf("%s: %d groups of events, want %d", where, got, groups)
		}
		if len(n.nodes[0].tokens) != 1 || len(n.nodes[0].events) != 1 {
			t.Errorf("%s: the first when joins on something: %v", where, n.nodes[0])
		}
	}
}

// TestAlone: what a when asks of its event alone is asked ahead of all else: others do not wait there.
func TestAlone(t *testing.T) {
	b := one(t, `when x : a [ n > 1 ] ; when y : b [ n = x . n and ( s = "p" and n < 9 ) ] ; when z : c ;`)
	n := networkOf(b, evA(1, 0, 1), evA(2, 0, 2), evB(3, 0, "p", 2), evB(4, 0, "q", 2), evB(5, 0, "p", 9), evB(6, 0, "p", 3))
	for i, want := range []int{1, 2, 0} {
		if kept, _ := waits(n.nodes[i]); kept != want {
			t.Errorf("%d events wait at %d, want %d", kept, i, want)
		}
	}
	if got := n.nodes[2].tokens[key{}]; len(got) != 1 || !slices.Equal(got[0].numbers(), []int{2, 3}) {
		t.Errorf("tokens at the last when: %v", got)
	}
}

// TestParts: a condition falls apart at each And that is not within another kind.
func TestParts(t *testing.T) {
	for where, want := range map[string]int{
		"n = 1":                                       1,
		"n = 1 and n = 2":                             2,
		"n = 1 and n = 2 and n = 3":                   3,
		"n = 1 and ( n = 2 and n = 3 )":               3,
		"n = 1 and ( n = 2 or n = 3 and n = 4 )":      2,
		"n = 1 or n = 2 and n = 3":                    1,
		"not ( n = 1 and n = 2 )":                     1,
		"( n = 1 and n = 2 ) and ( n = 3 and n = 4 )": 4,
	} {
		if got := parts(one(t, "when x : a [ "+where+" ] ;").Rules[0].Whens[0].Where); len(got) != want {
			t.Errorf("%s: %v", where, got)
		}
	}
	if got := parts(api.Condition{}); len(got) != 0 {
		t.Errorf("Always: %v", got)
	}
}
