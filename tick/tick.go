// Package tick: times, spans, and how two spans lie to one another.
package tick

import "dotterel/api"

// inverses of the relations, by their numbers; at 0 there is none.
var inverses = [...]int{
	0,
	api.After, api.Before,
	api.MetBy, api.Meets,
	api.OverlappedBy, api.Overlaps,
	api.StartedBy, api.Starts,
	api.Contains, api.During,
	api.FinishedBy, api.Finishes,
	api.Equals,
}

// Add a delta to a time.
func Add(t, delta int) (int, api.Errno) {
	if !isTime(t) || delta < 0 {
		return 0, api.ErrRange
	}
	// The room that is left is asked, since the sum might wrap round.
	if delta > api.MaxTime-t {
		return 0, api.ErrOver
	}
	return t + delta, api.OK
}

// Check a span.
func Check(s api.Span) api.Errno {
	if !isTime(s.Start) || !isTime(s.End) {
		return api.ErrRange
	}
	if s.End < s.Start {
		return api.ErrOrder
	}
	return api.OK
}

// Inverse of a relation.
func Inverse(r int) (int, api.Errno) {
	if !isRelation(r) {
		return 0, api.ErrKind
	}
	return inverses[r], api.OK
}

// Holds: does a relation hold?
func Holds(r int, a, b api.Span) (bool, api.Errno) {
	if !isRelation(r) {
		return false, api.ErrKind
	}
	if e := checkBoth(a, b); e != api.OK {
		return false, e
	}
	return holds(r, a, b), api.OK
}

// Distance of two spans by a relation.
func Distance(r int, a, b api.Span) (int, api.Errno) {
	held, e := Holds(r, a, b)
	if e != api.OK {
		return 0, e
	}
	if !held {
		return 0, api.ErrNone
	}
	return distance(r, a, b), api.OK
}

// Which relation holds: the first one.
func Which(a, b api.Span) (int, api.Errno) {
	if e := checkBoth(a, b); e != api.OK {
		return 0, e
	}
	r := api.Before
	// One always holds: where no other one does, the last one is left.
	for r < api.Equals && !holds(r, a, b) {
		r++
	}
	return r, api.OK
}

// CheckOption: may it be?
func CheckOption(o api.Option) api.Errno {
	if !isRelation(o.Relation) {
		return api.ErrKind
	}
	if o.Low < 0 || o.Low > api.MaxGap || o.High < -1 || o.High > api.MaxGap {
		return api.ErrRange
	}
	if o.High != -1 && o.High < o.Low {
		return api.ErrOrder
	}
	return api.OK
}

// Fits: does an option hold?
func Fits(o api.Option, a, b api.Span) (bool, api.Errno) {
	if e := CheckOption(o); e != api.OK {
		return false, e
	}
	if e := checkBoth(a, b); e != api.OK {
		return false, e
	}
	if !holds(o.Relation, a, b) {
		return false, api.OK
	}
	d := distance(o.Relation, a, b)
	return d >= o.Low && (o.High == -1 || d <= o.High), api.OK
}

func isTime(t int) bool { return t >= 0 && t <= api.MaxTime }

func isRelation(r int) bool { return r >= api.Before && r <= api.Equals }

// checkBoth: what Check refuses of the first span, else of the other one.
func checkBoth(a, b api.Span) api.Errno {
	if e := Check(a); e != api.OK {
		return e
	}
	return Check(b)
}

// upright: the same question by a relation that is told by itself. Six relations are told by their inverses only, with the spans in each other's place.
func upright(r int, a, b api.Span) (int, api.Span, api.Span) {
	switch r {
	case api.After, api.MetBy, api.OverlappedBy, api.StartedBy, api.Contains, api.FinishedBy:
		return inverses[r], b, a
	}
	return r, a, b
}

// holds: does a relation that there is hold of spans that may be?
func holds(r int, a, b api.Span) bool {
	r, a, b = upright(r, a, b)
	switch r {
	case api.Before:
		return a.End < b.Start
	case api.Meets:
		return a.End == b.Start && a.Start < b.Start && a.End < b.End
	case api.Overlaps:
		return a.Start < b.Start && a.End > b.Start && a.End < b.End
	case api.Starts:
		return a.Start == b.Start && a.End < b.End
	case api.During:
		return a.Start > b.Start && a.End < b.End
	case api.Finishes:
		return a.Start > b.Start && a.End == b.End
	}
	return a == b
}

// distance of two spans by a relation that holds.
func distance(r int, a, b api.Span) int {
	r, a, b = upright(r, a, b)
	switch r {
	case api.Before:
		return b.Start - a.End
	case api.Overlaps:
		return a.End - b.Start
	case api.Starts:
		return b.End - a.End
	case api.During, api.Finishes:
		return a.Start - b.Start
	}
	return 0
}
