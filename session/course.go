package session

import (
	"cmp"
	"maps"
	"slices"

	"dotterel/api"
	"dotterel/network"
	"dotterel/plan"
	"dotterel/scene"
	"dotterel/tick"
	"dotterel/value"
	"dotterel/wheel"
)

// course of a session: its time, and what there is of its events by then.
type course struct {
	book     api.Book
	delays   []int              // of the rules, by their plans
	networks []*network.Network // of the rules
	offsets  []int              // of the types
	now      int
	count    int             // of all events that came
	kept     []api.Event     // as they came
	waiting  map[int][]tuple // by the time at which they are to be looked at
}

// tuple of the rule at a place, by its events' Numbers.
type tuple struct {
	rule   int
	events []int
}

// begin a session of a book of which Load refuses nothing.
func begin(b api.Book) *course {
	c := &course{book: b, waiting: map[int][]tuple{}}
	c.offsets, _ = plan.Offsets(b)
	for i, r := range b.Rules {
		p, _ := plan.Rule(b, i)
		c.delays = append(c.delays, p.Delay)
		c.networks = append(c.networks, network.New(b.Types, r))
	}
	return c
}

// do an operation.
func (c *course) do(o api.Operation) api.Answer {
	if e := Bare(o); e != api.OK {
		return api.Answer{Code: e}
	}
	switch o.Kind {
	case api.Insert:
		return c.insert(o)
	case api.Advance:
		return c.advance(o)
	}
	return c.query(o)
}

func (c *course) query(o api.Operation) api.Answer {
	at := c.typeAt(o.Type)
	if at < 0 {
		return api.Answer{Code: api.ErrNone}
	}
	n := 0
	for _, x := range c.kept {
		if x.Type == at {
			n++
		}
	}
	return api.Answer{Number: n}
}

func (c *course) insert(o api.Operation) api.Answer {
	at := c.typeAt(o.Type)
	if at < 0 {
		return api.Answer{Code: api.ErrNone}
	}
	if e := value.Fit(c.book.Types[at], o.Values); e != api.OK {
		return api.Answer{Code: e}
	}
	if e := tick.Check(o.Span); e != api.OK {
		return api.Answer{Code: e}
	}
	if o.Span.End != c.now {
		return api.Answer{Code: api.ErrLate}
	}
	number, e := c.take(api.Event{Type: at, Span: o.Span, Values: o.Values})
	return api.Answer{Code: e, Number: number}
}

// take in an event that ends now, if there is room, and tell its Number.
func (c *course) take(x api.Event) (int, api.Errno) {
	if len(c.kept) >= api.MaxLive || c.count >= api.MaxCount {
		return 0, api.ErrFull
	}
	c.count++
	x.Number = c.count
	c.kept = append(c.kept, x)
	for i, n := range c.networks {
		// No event ends behind the one that came last, so that now is the latest End of all that it makes whole.
		at := c.now + c.delays[i] + 1
		for _, events := range n.Take(x) {
			c.waiting[at] = append(c.waiting[at], tuple{rule: i, events: events})
		}
	}
	return x.Number, api.OK
}

func (c *course) advance(o api.Operation) api.Answer {
	until, e := tick.Add(c.now, o.Delta)
	if e != api.OK {
		return api.Answer{Code: e}
	}
	var firings []api.Firing
	// What is emitted at one time may have to be looked at ahead of all that waits so far.
	for at, found := c.next(until); found; at, found = c.next(until) {
		c.now = at
		firings = append(firings, c.look()...)
	}
	c.now = until
	if o.Collect {
		c.collect()
	}
	return api.Answer{Number: until, Firings: firings}
}

// next time at which tuples wait to be looked at, up to one. Each such time is a timer. They are not too many to be set: a
// tuple that waits has a kept event that came last, so that there are at most MaxLive of them for each rule.
func (c *course) next(until int) (at int, found bool) {
	times := slices.Collect(maps.Keys(c.waiting))
	var deeds []api.Deed
	for i, t := range times {
		deeds = append(deeds, api.Deed{Kind: api.Set, Id: i + 1, At: t})
	}
	_, due, _ := wheel.Play(c.now, append(deeds, api.Deed{Kind: api.Pass, At: until}))
	if first := due[len(deeds)]; len(first) > 0 {
		return times[first[0]-1], true
	}
	return 0, false
}

// look at the tuples that waited for now: those that are fired are told, and then what their rules emit comes.
func (c *course) look() []api.Firing {
	due := c.waiting[c.now]
	delete(c.waiting, c.now)
	// All of them are asked ahead of what is emitted, which comes too late for them.
	due = slices.DeleteFunc(due, func(t tuple) bool { return !c.fires(t) })
	slices.SortFunc(due, func(a, b tuple) int {
		return cmp.Or(cmp.Compare(a.rule, b.rule), slices.Compare(a.events, b.events))
	})
	out := make([]api.Firing, len(due))
	for i, t := range due {
		out[i] = api.Firing{At: c.now, Rule: t.rule, Events: t.events, Made: c.emit(t)}
	}
	return out
}

// fires: is a tuple fired, by the events that came up to now? Those that are kept no more would make no difference.
func (c *course) fires(t tuple) bool {
	return scene.Candidate{Types: c.book.Types, Rule: c.book.Rules[t.rule], Tuple: c.pick(t)}.Fires(c.kept)
}

// emit what comes of a tuple's rule, and tell its Number; 0: nothing comes.
func (c *course) emit(t tuple) int {
	r := c.book.Rules[t.rule]
	if r.Emit.Type == "" {
		return 0
	}
	known := c.pick(t)
	x := api.Event{Type: c.typeAt(r.Emit.Type), Span: api.Span{Start: c.now, End: c.now}}
	for _, y := range known {
		x.Span.Start = min(x.Span.Start, y.Span.Start)
	}
	s := scene.Scene{Types: c.book.Types, Whens: r.Whens, Known: known}
	for _, o := range r.Emit.Values {
		x.Values = append(x.Values, s.Side(o))
	}
	number, _ := c.take(x)
	return number
}

// collect the events that are over: no tuple to come has them, and none that waits.
func (c *course) collect() {
	over := func(x api.Event) bool {
		offset := c.offsets[x.Type]
		return offset != api.None && offset <= c.now-x.Span.End
	}
	c.kept = slices.DeleteFunc(c.kept, over)
	for _, n := range c.networks {
		n.Drop(over)
	}
}

// pick the events of a tuple. As long as it waits, they are kept.
func (c *course) pick(t tuple) []api.Event {
	out := make([]api.Event, len(t.events))
	for i, number := range t.events {
		at, _ := slices.BinarySearchFunc(c.kept, number, func(x api.Event, n int) int { return cmp.Compare(x.Number, n) })
		out[i] = c.kept[at]
	}
	return out
}

// typeAt: the place of the type with a name; -1: there is none.
func (c *course) typeAt(name string) int {
	return slices.IndexFunc(c.book.Types, func(t api.Type) bool { return t.Name == name })
}
