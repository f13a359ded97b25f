// Package scene: what a pattern looks at, and a tuple of which it is asked whether it is fired. It asks nothing of whether
// a book may be: layers that ask much of one book check it once themselves, and share this.
package scene

import (
	"slices"

	"dotterel/api"
	"dotterel/tick"
	"dotterel/value"
)

// Scene that a pattern looks at: the event that is its own, and those that are known, one for each of these whens and of
// its type. Types, events and patterns are of a book that may be.
type Scene struct {
	Types []api.Type
	Own   api.Event
	Whens []api.Pattern
	Known []api.Event
}

// IsOf: is an event of a pattern's type?
func IsOf(types []api.Type, x api.Event, p api.Pattern) bool { return types[x.Type].Name == p.Type }

// WhenAt: the place of the when with a name; -1: it is none of a when.
func WhenAt(whens []api.Pattern, name string) int {
	return slices.IndexFunc(whens, func(p api.Pattern) bool { return p.Var == name })
}

// CheckKnown: may these be the events of these whens? All of them are checked ahead of how many there are, so that what is
// wrong of one too many is told, too.
func CheckKnown(types []api.Type, whens []api.Pattern, known []api.Event) api.Errno {
	for _, x := range known {
		if e := value.CheckEvent(types, x); e != api.OK {
			return e
		}
	}
	if len(known) != len(whens) {
		return api.ErrForm
	}
	for i, x := range known {
		if !IsOf(types, x, whens[i]) {
			return api.ErrType
		}
	}
	return api.OK
}

// Linked: does one of these options hold of a link's left span to its right one? Both spans and options may be.
func Linked(options []api.Option, left, right api.Span) bool {
	return slices.ContainsFunc(options, func(o api.Option) bool {
		fits, _ := tick.Fits(o, left, right)
		return fits
	})
}

// Link between two whens: does it hold in the beginning of a tuple, where the events of both are in it?
type Link func(tuple []api.Event) bool

// LinksOf a rule that are between two whens, by the place of the later one: there both are known.
func LinksOf(r api.Rule) [][]Link {
	out := make([][]Link, len(r.Whens))
	for _, k := range r.Links {
		left, right := WhenAt(r.Whens, k.Left), WhenAt(r.Whens, k.Right)
		// A link of a not says what may not come, and nothing of the tuple.
		if left < 0 || right < 0 {
			continue
		}
		later := max(left, right)
		out[later] = append(out[later], func(tuple []api.Event) bool {
			return Linked(k.Options, tuple[left].Span, tuple[right].Span)
		})
	}
	return out
}

// AllHold: do all of these links hold in the beginning of a tuple?
func AllHold(links []Link, tuple []api.Event) bool {
	return !slices.ContainsFunc(links, func(holds Link) bool { return !holds(tuple) })
}

// Suits: does a pattern take the event that is its own?
func (s Scene) Suits(p api.Pattern) bool {
	// The type goes first: an event of another one may not have the fields that the condition names.
	return IsOf(s.Types, s.Own, p) && s.holds(p.Where)
}

// holds: does a condition?
func (s Scene) holds(c api.Condition) bool {
	switch c.Kind {
	case api.Always:
		return true
	case api.And:
		return !slices.ContainsFunc(c.Subs, s.fails)
	case api.Or:
		return slices.ContainsFunc(c.Subs, s.holds)
	case api.Not:
		return s.fails(c.Subs[0])
	}
	return s.compares(c)
}

func (s Scene) fails(c api.Condition) bool { return !s.holds(c) }

// compares: does a comparison hold?
func (s Scene) compares(c api.Condition) bool {
	// Both sides are of one kind, and may be.
	n, _ := value.Compare(s.Side(c.Left), s.Side(c.Right))
	switch c.Kind {
	case api.Equal:
		return n == 0
	case api.Differ:
		return n != 0
	case api.Less:
		return n < 0
	}
	return n <= 0
}

// Side of a comparison, or a value that is emitted: the value that it stands for.
func (s Scene) Side(o api.Operand) api.Value {
	switch o.Kind {
	case api.Own:
		return s.field(s.Own, o.Field)
	case api.Other:
		return s.field(s.Known[WhenAt(s.Whens, o.Var)], o.Field)
	}
	return o.Value
}

// field of an event: its value.
func (s Scene) field(x api.Event, name string) api.Value {
	at := slices.IndexFunc(s.Types[x.Type].Fields, func(f api.Field) bool { return f.Name == name })
	return x.Values[at]
}
