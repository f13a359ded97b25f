package network

import (
	"slices"

	"dotterel/api"
	"dotterel/scene"
	"dotterel/value"
)

// key: what a when joins on: the values that fields of its event must have, by their places; a field that it does not join
// on is empty.
type key [api.MaxFields]api.Value

// tie: a field of a when's event has the value that a field of the event of one ahead has; all by their places.
type tie struct{ own, when, field int }

// node of a when: events and tokens that wait there for each other.
type node struct {
	alone    api.Pattern // what the when asks of its event alone
	together api.Pattern // what it asks of it by those ahead
	ties     []tie
	links    []scene.Link
	events   map[key][]*item // events that it may take
	tokens   map[key][]token // of the events of the whens ahead
}

// newNode of the last one of these whens, with these links to those ahead.
func newNode(types []api.Type, whens []api.Pattern, links []scene.Link) node {
	last := len(whens) - 1
	d := node{alone: whens[last], together: whens[last], links: links, events: map[key][]*item{}, tokens: map[key][]token{}}
	var alone, together []api.Condition
	for _, c := range parts(whens[last].Where) {
		if namesOther(c) {
			together = append(together, c)
		} else {
			alone = append(alone, c)
		}
	}
	d.alone.Where, d.together.Where = all(alone), all(together)
	for _, c := range together {
		if own, other, ok := sides(c); ok {
			d.ties = append(d.ties, newTie(types, whens, own, other))
		}
	}
	return d
}

// parts of a condition that must hold, each for itself.
func parts(c api.Condition) []api.Condition {
	switch c.Kind {
	case api.Always:
		return nil
	case api.And:
		var out []api.Condition
		for _, sub := range c.Subs {
			out = append(out, parts(sub)...)
		}
		return out
	}
	return []api.Condition{c}
}

// all of these conditions, as one.
func all(l []api.Condition) api.Condition { return api.Condition{Kind: api.And, Subs: l} }

// namesOther: does a condition name the event of a when ahead?
func namesOther(c api.Condition) bool {
	return c.Left.Kind == api.Other || c.Right.Kind == api.Other || slices.ContainsFunc(c.Subs, namesOther)
}

// sides of a condition by which events can be found: that an own field is the same as one of another event.
func sides(c api.Condition) (own, other api.Operand, ok bool) {
	own, other = c.Left, c.Right
	if own.Kind == api.Other {
		own, other = other, own
	}
	return own, other, c.Kind == api.Equal && own.Kind == api.Own && other.Kind == api.Other
}

// newTie of the last one of these whens. Types and fields are there: the book was checked.
func newTie(types []api.Type, whens []api.Pattern, own, other api.Operand) tie {
	at := scene.WhenAt(whens, other.Var)
	return tie{
		own:   fieldAt(types, whens[len(whens)-1].Type, own.Field),
		when:  at,
		field: fieldAt(types, whens[at].Type, other.Field),
	}
}

// fieldAt: the place of a field of the type with a name.
func fieldAt(types []api.Type, kind, field string) int {
	at := slices.IndexFunc(types, func(t api.Type) bool { return t.Name == kind })
	place, _, _ := value.Field(types[at], field)
	return place
}

// ofEvent: the key of an event of the when.
func (d *node) ofEvent(x api.Event) key {
	var k key
	for _, t := range d.ties {
		k[t.own] = x.Values[t.own]
	}
	return k
}

// ofTuple: the key of the events of the whens ahead. Where two ties are of one own field, one of them is enough: all that
// the when asks is asked of what is found.
func (d *node) ofTuple(tuple []api.Event) key {
	var k key
	for _, t := range d.ties {
		k[t.own] = tuple[t.when].Values[t.field]
	}
	return k
}

func (d *node) keepEvent(x *item) {
	k := d.ofEvent(x.Event)
	d.events[k] = append(d.events[k], x)
}

func (d *node) keepToken(t token, tuple []api.Event) {
	k := d.ofTuple(tuple)
	d.tokens[k] = append(d.tokens[k], t)
}

// eventsFor a token with these events: those that the when may take behind it.
func (d *node) eventsFor(tuple []api.Event) []*item { return d.events[d.ofTuple(tuple)] }

// tokensFor an event: those behind which the when may take it.
func (d *node) tokensFor(x api.Event) []token { return d.tokens[d.ofEvent(x)] }

// drop the events that are over, and the tokens that have one of these.
func (d *node) drop(isOver func(x *item) bool) {
	prune(d.events, isOver)
	prune(d.tokens, func(t token) bool { return slices.ContainsFunc(t, isOver) })
}

// prune lists of what is over, and of lists that nothing is left of.
func prune[E any](lists map[key][]E, isOver func(x E) bool) {
	for k, l := range lists {
		if l = slices.DeleteFunc(l, isOver); len(l) > 0 {
			lists[k] = l
		} else {
			delete(lists, k)
		}
	}
}
