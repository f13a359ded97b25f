// Package network: tuples of a rule, as its events come and go. It asks nothing of whether a book or an event may be:
// layers that join events check them once themselves, and share this.
package network

import (
	"slices"

	"dotterel/api"
	"dotterel/scene"
)

// item: an event that came.
type item struct {
	api.Event
	turn int // the count of its type when it came, with itself
}

// token: the events of a tuple's beginning.
type token []*item

// Network of a rule: what came so far, joined as far as it goes together.
type Network struct {
	types  []api.Type
	whens  []api.Pattern
	nodes  []node            // one for each when
	counts [api.MaxTypes]int // of all events that came, by the places of their types
	last   *item             // the event that came last
	whole  [][]int           // tuples that it makes whole
}

// New network of a rule, of events of these types.
func New(types []api.Type, r api.Rule) *Network {
	n := &Network{types: types, whens: r.Whens, nodes: make([]node, len(r.Whens))}
	links := scene.LinksOf(r)
	for i := range r.Whens {
		n.nodes[i] = newNode(types, r.Whens[:i+1], links[i])
	}
	// Behind the token of no events each event of the first when may come.
	n.nodes[0].keepToken(nil, nil)
	return n
}

// Take in an event, and tell the tuples that it makes whole: the events' Numbers, in their order.
func (n *Network) Take(x api.Event) [][]int {
	n.counts[x.Type]++
	n.last = &item{Event: x, turn: n.counts[x.Type]}
	n.whole = nil
	// An event and a token meet when the later one of them comes to the node: so they meet once, whichever when goes first.
	for i := range n.nodes {
		d := &n.nodes[i]
		if !n.suits(d.alone, x, nil) {
			continue
		}
		d.keepEvent(n.last)
		for _, t := range d.tokensFor(x) {
			n.extend(t, n.last)
		}
	}
	slices.SortFunc(n.whole, slices.Compare[[]int])
	return n.whole
}

// Drop the events that are over, so that no tuple is made whole with them any more. A window of the last events still
// counts them.
func (n *Network) Drop(over func(x api.Event) bool) {
	for i := range n.nodes {
		n.nodes[i].drop(func(x *item) bool { return over(x.Event) })
	}
}

// extend a token by an event, if they go together, and what comes of it by all that came ahead.
func (n *Network) extend(t token, x *item) {
	longer := append(slices.Clone(t), x)
	if slices.Contains(t, x) || !n.inWindows(longer) {
		return
	}
	tuple := longer.events()
	d := n.nodes[len(t)]
	if !n.suits(d.together, x.Event, tuple[:len(t)]) || !scene.AllHold(d.links, tuple) {
		return
	}
	if len(longer) == len(n.nodes) {
		n.whole = append(n.whole, longer.numbers())
		return
	}
	next := &n.nodes[len(longer)]
	next.keepToken(longer, tuple)
	for _, behind := range next.eventsFor(tuple) {
		n.extend(longer, behind)
	}
}

// suits: does a pattern take an event, where these are those of the whens ahead?
func (n *Network) suits(p api.Pattern, x api.Event, known []api.Event) bool {
	return scene.Scene{Types: n.types, Own: x, Whens: n.whens[:len(known)], Known: known}.Suits(p)
}

// inWindows: is each event of a token in its when's window? What is joined now has the event that came last in it, or is
// a part of what has: so windows reach back from that one.
func (n *Network) inWindows(t token) bool {
	for i, x := range t {
		w := n.whens[i]
		if w.Window == api.Time && n.last.Span.End-x.Span.End > w.N {
			return false
		}
		if w.Window == api.Last && n.counts[x.Type]-x.turn >= w.N {
			return false
		}
	}
	return true
}

// events of a token.
func (t token) events() []api.Event {
	out := make([]api.Event, len(t))
	for i, x := range t {
		out[i] = x.Event
	}
	return out
}

// numbers of a token's events.
func (t token) numbers() []int {
	out := make([]int, len(t))
	for i, x := range t {
		out[i] = x.Number
	}
	return out
}
