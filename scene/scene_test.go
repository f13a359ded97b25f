package scene

import (
	"testing"

	"dotterel/api"
	"dotterel/lex"
	"dotterel/parse"
)

// read a book that is written out in a test.
func read(t *testing.T, s string) api.Book {
	t.Helper()
	l, _, e := lex.Cut(s)
	if e != api.OK {
		t.Fatalf("Cut(%q): %v", s, e)
	}
	b, _, e := parse.Parse(l)
	if e != api.OK {
		t.Fatalf("Parse(%q): %v", s, e)
	}
	return b
}

// event of the type at a place, with these numbers as values.
func event(kind int, l ...int) api.Event {
	x := api.Event{Number: 1, Type: kind}
	for _, n := range l {
		x.Values = append(x.Values, api.Value{Kind: api.Int, Int: n})
	}
	return x
}

// TestIsOf: an event's type is told by its place, a pattern's by its name.
func TestIsOf(t *testing.T) {
	b := read(t, "type a { } type b { } type c { } rule r { when x : b ; }")
	for kind := range b.Types {
		if got := IsOf(b.Types, event(kind), b.Rules[0].Whens[0]); got != (kind == 1) {
			t.Errorf("an event of the type at %d: %v", kind, got)
		}
	}
}

// TestSuits: P10.2, by what is shared: the fields of the own event and of each known one are found by their names. (All conditions are held to it in the tests of sift.)
func TestSuits(t *testing.T) {
	const types = "type a { n : int , m : int } type b { m : int , n : int } "
	x, y := event(0, 1, 2), event(1, 3, 4) // x has n 1 and m 2, y has m 3 and n 4
	for where, want := range map[string]bool{
		"n = 5":                                true,
		"m = 5":                                false,
		"m = 6":                                true,
		"n = 5 and m = 6":                      true,
		"n = 5 and m = 5":                      false,
		"n = 6 or m = 6":                       true,
		"n = 6 or m = 5":                       false,
		"not n = 6":                            true,
		"x . n = 1 and x . m = 2":              true,
		"y . m = 3 and y . n = 4":              true,
		"y . n < n and n <= 5 and x . n /= n":  true,
		"y . n < x . n or n < 5 or y . m /= 3": false,
	} {
		b := read(t, types+"rule r { when x : a ; when y : b ; when z : a [ "+where+" ] ; }")
		whens := b.Rules[0].Whens
		for kind, own := range []api.Event{event(0, 5, 6), event(1, 6, 5)} {
			s := Scene{Types: b.Types, Own: own, Whens: whens[:2], Known: []api.Event{x, y}}
			if got := s.Suits(whens[2]); got != (want && kind == 0) {
				t.Errorf("%s, the type at %d: %v", where, kind, got)
			}
		}
	}
}
