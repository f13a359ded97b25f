package scene

import (
	"testing"

	"dotterel/api"
	"dotterel/lex"
	"dotterel/parse"
)

// read a book that is written out in a test.
func read(t *testing.T, s string) api.Book {
	t.Helper()
	l, _, e := lex.Cut(s)
	if e != api.OK {
		t.Fatalf("Cut(%q): %v", s, e)
	}
	b, _, e := parse.Parse(l)
	if e != api.OK {
		t.Fatalf("Parse(%q): %v", s, e)
	}
	return b
}

// event of the type at a place, with these numbers as values.
func event(kind int, l ...int) api.Event {
	x := api.Event{Number: 1, Type: kind}
	for _, n := range l {
		x.Values = append(x.Values, api.Value{Kind: api.Int, Int: n})
	}
	return x
}

// TestIsOf: an event's type is told by its place, a pattern's by its name.
func TestIsOf(t *testing.T) {
	b := read(t, "type a { } type b { } type c { } rule r { when x : b ; }")
	for kind := range b.Types {
		if got := IsOf(b.Types, event(kind), b.Rules[0].Whens[0]); got != (kind == 1) {
			t.Errorf("an event of the type at %d: %v", kind, got)
		}
	}
}

// TestSuits: P10.2, by what is shared: the fields of the own event and of each known one are found by their names. (All conditions are held to it in the tests of sift.)
func TestSuits(t *testing.T) {
	const types = "type a { n : int , m : int } type b { m : int , n : int } "
	x, y := event(0, 1, 2), event(1, 3, 4) // x has n 1 and m 2, y has m 3 and n 4
	for where, want := range map[string]bool{
		"n = 5":                                true,
		"m = 5":                                false,
		"m = 6":                                true,
		"n = 5 and m = 6":                      true,
		"n = 5 and m = 5":                      false,
		"n = 6 or m = 6":                       true,
		"n = 6 or m = 5":                       false,
		"not n = 6":                            true,
		"x . n = 1 and x . m = 2":              true,
		"y . m = 3 and y . n = 4":              true,
		"y . n < n and n <= 5 and x . n /= n":  true,
		"y . n < x . n or n < 5 or y . m /= 3": false,
	} {
		b := read(t, types+"rule r { when x : a ; when y : b ; when z : a [ "+where+" ] ; }")
		whens := b.Rules[0].Whens
		for kind, own := range []api.Event{event(0, 5, 6), event(1, 6, 5)} {
			s := Scene{Types: b.Types, Own: own, Whens: whens[:2], Known: []api.Event{x, y}}
			if got := s.Suits(whens[2]); got != (want && kind == 0) {
				t.Errorf("%s, the type at %d: %v", where, kind, got)
			}
		}
	}
}

// TestWhenAt: the place of each when, by its name; -1 for any other one.
func TestWhenAt(t *testing.T) {
	r := read(t, "type a { } rule r { when x : a ; when y : a ; when z : a ; not u : a ; many 1 p : a within 3 ; }").Rules[0]
	for name, want := range map[string]int{"x": 0, "y": 1, "z": 2, "u": -1, "p": -1, "a": -1, "": -1} {
		if got := WhenAt(r.Whens, name); got != want {
			t.Errorf("%s: %d, want %d", name, got, want)
		}
	}
	if got := WhenAt(r.Whens[:1], "y"); got != -1 {
		t.Errorf("one that is not among them: %d", got)
	}
}

// TestCheckKnown: each event is asked whether it may be, ahead of how many there are; their types go last.
func TestCheckKnown(t *testing.T) {
	b := read(t, "type a { n : int } type b { n : int } rule r { when x : a ; when y : b ; }")
	whens := b.Rules[0].Whens
	x, y := event(0, 1), event(1, 2)
	short, odd := event(0), event(2) // one without its value, and one of no type
	for i, c := range []struct {
		known []api.Event
		want  api.Errno
	}{
		{[]api.Event{x, y}, api.OK},
		{[]api.Event{y, x}, api.ErrType},
		{[]api.Event{x, x}, api.ErrType},
		{[]api.Event{y, y}, api.ErrType},
		{nil, api.ErrForm},
		{[]api.Event{x}, api.ErrForm},
		{[]api.Event{y}, api.ErrForm},
		{[]api.Event{x, y, x}, api.ErrForm},
		{[]api.Event{short, odd}, api.ErrType},
		{[]api.Event{odd, short}, api.ErrNone},
		{[]api.Event{y, odd}, api.ErrNone},
		{[]api.Event{x, y, odd}, api.ErrNone},
		{[]api.Event{odd}, api.ErrNone},
	} {
		if got := CheckKnown(b.Types, whens, c.known); got != c.want {
			t.Errorf("%d: %v: %v, want %v", i, c.known, got, c.want)
		}
	}
	if e := CheckKnown(b.Types, nil, nil); e != api.OK {
		t.Errorf("none of none: %v", e)
	}
}

// TestLinked: one option is enough, of the left span to the right one.
func TestLinked(t *testing.T) {
	left, right := api.Span{Start: 0, End: 2}, api.Span{Start: 5, End: 9}
	near, far := api.Option{Relation: api.Before, High: 2}, api.Option{Relation: api.Before, Low: 3, High: 3}
	after := api.Option{Relation: api.After, High: -1}
	for i, c := range []struct {
		options []api.Option
		to, fro bool
	}{
		{nil, false, false},
		{[]api.Option{near}, false, false},
		{[]api.Option{far}, true, false},
		{[]api.Option{after}, false, true},
		{[]api.Option{near, far}, true, false},
		{[]api.Option{far, near}, true, false},
		{[]api.Option{near, after}, false, true},
		{[]api.Option{near, far, after}, true, true},
	} {
		if to, fro := Linked(c.options, left, right), Linked(c.options, right, left); to != c.to || fro != c.fro {
			t.Errorf("%d: %v: %v, %v", i, c.options, to, fro)
		}
	}
}

// TestLinksOf: the links between whens, each at the later one of both, and by the event of the when that it names; those of nots are left out.
func TestLinksOf(t *testing.T) {
	r := read(t, `type a { } rule r { when x : a ; when y : a ; when z : a ; not u : a ;
		where x before y ; where z after x ; where u before x ; where y before ( 2 , any ) z ; where z during u ; }`).Rules[0]
	links := LinksOf(r)
	if len(links) != 3 || len(links[0]) != 0 || len(links[1]) != 1 || len(links[2]) != 2 {
		t.Fatalf("%v", links)
	}
	at := func(times ...int) []api.Event {
		var l []api.Event
		for _, n := range times {
			l = append(l, api.Event{Span: api.Span{Start: n, End: n}})
		}
		return l
	}
	for i, c := range []struct {
		tuple []api.Event
		holds bool
	}{
		{at(5), true},
		{at(1, 2), true},
		{at(2, 2), false},
		{at(2, 1), false},
		{at(1, 2, 4), true},
		{at(1, 2, 3), false}, // y is not 2 before z
		{at(5, 2, 4), false}, // z is not after x
		{at(5, 2, 9), true},  // of x and y it is not asked here
	} {
		if got := AllHold(links[len(c.tuple)-1], c.tuple); got != c.holds {
			t.Errorf("%d: %v: %v", i, c.tuple, got)
		}
	}
	if !AllHold(nil, nil) {
		t.Error("none do not hold")
	}
}
