package scene

import (
	"slices"

	"dotterel/api"
	"dotterel/value"
)

// Candidate: a tuple of a rule, of which it is asked whether it is fired. Its events are one for each when of the rule, of
// that one's type.
type Candidate struct {
	Types []api.Type
	Rule  api.Rule
	Tuple []api.Event
}

// Fires: is the tuple fired, where these are all events?
func (c Candidate) Fires(l []api.Event) bool { return !c.isBlocked(l) && c.hasEnough(l) }

// latestEnd of the tuple's events, which need not stand there as they came.
func (c Candidate) latestEnd() int {
	end := 0
	for _, x := range c.Tuple {
		end = max(end, x.Span.End)
	}
	return end
}

// takes: does a not, or the pattern of a many, take an event?
func (c Candidate) takes(p api.Pattern, x api.Event) bool {
	return Scene{Types: c.Types, Own: x, Whens: c.Rule.Whens, Known: c.Tuple}.Suits(p)
}

// isBlocked: does one of these events block the tuple, by one of the nots?
func (c Candidate) isBlocked(l []api.Event) bool {
	return slices.ContainsFunc(c.Rule.Nots, func(p api.Pattern) bool {
		links := c.linksOf(p)
		return slices.ContainsFunc(l, func(x api.Event) bool {
			return !c.has(x) && c.takes(p, x) && allHoldOf(links, x)
		})
	})
}

// has: is an event one of the tuple's? Events are told apart by their Numbers.
func (c Candidate) has(x api.Event) bool {
	return slices.ContainsFunc(c.Tuple, func(own api.Event) bool { return own.Number == x.Number })
}

// linked: does a link hold between an event that a not takes and that of a when?
type linked func(x api.Event) bool

// linksOf a not: those that name it. What such a link names beside it is a when, as no link is between two nots.
func (c Candidate) linksOf(p api.Pattern) []linked {
	var out []linked
	for _, k := range c.Rule.Links {
		switch p.Var {
		case k.Left:
			right := c.spanOf(k.Right)
			out = append(out, func(x api.Event) bool { return Linked(k.Options, x.Span, right) })
		case k.Right:
			left := c.spanOf(k.Left)
			out = append(out, func(x api.Event) bool { return Linked(k.Options, left, x.Span) })
		}
	}
	return out
}

// spanOf the event of the when with a name.
func (c Candidate) spanOf(name string) api.Span { return c.Tuple[WhenAt(c.Rule.Whens, name)].Span }

// allHoldOf an event: do all links of a not?
func allHoldOf(links []linked, x api.Event) bool {
	return !slices.ContainsFunc(links, func(holds linked) bool { return !holds(x) })
}

// hasEnough: are there for each many as many of these events as it asks for?
func (c Candidate) hasEnough(l []api.Event) bool {
	end := c.latestEnd()
	return !slices.ContainsFunc(c.Rule.Manies, func(m api.Many) bool { return c.sum(m, end, l) < m.Count })
}

// sum over those of these events that a many looks at, up to the latest End: how many they are, or what comes of their
// values in its field.
func (c Candidate) sum(m api.Many, end int, l []api.Event) int {
	sum := 0
	for _, x := range l {
		ahead := end - x.Span.End
		if ahead >= 0 && ahead <= m.Pattern.N && c.takes(m.Pattern, x) {
			sum += c.weight(m, x)
		}
	}
	return sum
}

// weight of an event that a many looks at.
func (c Candidate) weight(m api.Many, x api.Event) int {
	if m.Field == "" {
		return 1
	}
	// The many's field is one of its type, and the event of that type.
	at, _, _ := value.Field(c.Types[x.Type], m.Field)
	return x.Values[at].Int
}
