package scene

import (
	"testing"

	"dotterel/api"
)

// ended: an event of a type that is just its End, with these numbers as values.
func ended(number, kind, end int, l ...int) api.Event {
	x := event(kind, l...)
	x.Number, x.Span = number, api.Span{Start: end, End: end}
	return x
}

// TestFires: P12.1, P12.2, by what is shared. (All that they ask is held to in the tests of watch.)
func TestFires(t *testing.T) {
	b := read(t, `type a { n : int } type b { } rule r { when x : a ; when y : a ; not u : b ; many 5 of n p : a within 3 ;
		where u before ( 0 , 2 ) x ; }`)
	x, y := ended(1, 0, 4, 3), ended(2, 0, 5, 2)
	for i, c := range []struct {
		l    []api.Event
		want bool
	}{
		{[]api.Event{x, y}, true},
		{[]api.Event{y}, false},
		{nil, false},
		{[]api.Event{x}, false},
		{[]api.Event{ended(3, 0, 2, 3), y}, true},  // just 3 ahead of the latest End
		{[]api.Event{ended(3, 0, 1, 3), y}, false}, // a tick too early
		{[]api.Event{y, ended(3, 0, 6, 3)}, false}, // behind it
		{[]api.Event{x, y, ended(3, 0, 4, -1)}, false},
		{[]api.Event{ended(3, 1, 2), x, y}, false}, // it blocks
		{[]api.Event{ended(3, 1, 1), x, y}, true},  // its link does not hold
		{[]api.Event{x, ended(3, 1, 4), y}, true},
	} {
		if got := (Candidate{Types: b.Types, Rule: b.Rules[0], Tuple: []api.Event{x, y}}).Fires(c.l); got != c.want {
			t.Errorf("%d: %v, want %v", i, got, c.want)
		}
	}
	// The tuple's events need not stand there as they came.
	back := Candidate{Types: b.Types, Rule: b.Rules[0], Tuple: []api.Event{y, x}}
	if !back.Fires([]api.Event{x, y}) || back.Fires([]api.Event{ended(3, 1, 3), x, y}) {
		t.Error("the other way round")
	}
}

// TestSide: P10.2, P14.6: a constant, a field of the own event, and one of an event that is known.
func TestSide(t *testing.T) {
	b := read(t, "type a { n : int , m : int } type b { m : int , n : int } rule r { when x : a ; when y : b ; }")
	s := Scene{Types: b.Types, Own: event(1, 5, 6), Whens: b.Rules[0].Whens, Known: []api.Event{event(0, 1, 2), event(1, 3, 4)}}
	for _, c := range []struct {
		o    api.Operand
		want int
	}{
		{api.Operand{Kind: api.Constant, Value: api.Value{Kind: api.Int, Int: 7}}, 7},
		{api.Operand{Kind: api.Own, Field: "m"}, 5},
		{api.Operand{Kind: api.Own, Field: "n"}, 6},
		{api.Operand{Kind: api.Other, Var: "x", Field: "n"}, 1},
		{api.Operand{Kind: api.Other, Var: "x", Field: "m"}, 2},
		{api.Operand{Kind: api.Other, Var: "y", Field: "m"}, 3},
		{api.Operand{Kind: api.Other, Var: "y", Field: "n"}, 4},
	} {
		if got := s.Side(c.o); got != (api.Value{Kind: api.Int, Int: c.want}) {
			t.Errorf("%v: %v", c.o, got)
		}
	}
}
