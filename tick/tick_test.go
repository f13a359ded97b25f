package tick

import (
	"math"
	"testing"

	"dotterel/api"
)

// span written short.
func span(start, end int) api.Span { return api.Span{Start: start, End: end} }

// option written short.
func option(relation, low, high int) api.Option {
	return api.Option{Relation: relation, Low: low, High: high}
}

// noTimes: numbers right outside the times, and the farthest ones.
var noTimes = []int{math.MinInt, -1, api.MaxTime + 1, math.MaxInt}

// noRelations: numbers right outside the relations, and the farthest ones.
var noRelations = []int{math.MinInt, -1, 0, api.Equals + 1, math.MaxInt}

// badSpans: spans that may not be, with what is refused of them.
var badSpans = []struct {
	s    api.Span
	want api.Errno
}{
	{span(-1, 0), api.ErrRange},
	{span(0, -1), api.ErrRange},
	{span(0, api.MaxTime+1), api.ErrRange},
	{span(api.MaxTime+1, api.MaxTime+1), api.ErrRange},
	{span(api.MaxTime+1, 0), api.ErrRange}, // out of order, too
	{span(math.MaxInt, math.MinInt), api.ErrRange},
	{span(math.MinInt, math.MaxInt), api.ErrRange},
	{span(1, 0), api.ErrOrder},
	{span(api.MaxTime, 0), api.ErrOrder},
	{span(api.MaxTime, api.MaxTime-1), api.ErrOrder},
}

// pairs of spans, each with the one relation that holds and its distance.
var pairs = []struct {
	a, b     api.Span
	relation int
	distance int
}{
	{span(0, 2), span(5, 9), api.Before, 3},
	{span(0, 2), span(3, 9), api.Before, 1},
	{span(0, 2), span(2, 9), api.Meets, 0},
	{span(0, 5), span(3, 9), api.Overlaps, 2},
	{span(0, 8), span(1, 9), api.Overlaps, 7},
	{span(3, 5), span(3, 9), api.Starts, 4},
	{span(4, 5), span(1, 9), api.During, 3},
	{span(4, 9), span(1, 9), api.Finishes, 3},
	{span(1, 9), span(1, 9), api.Equals, 0},
	{span(5, 9), span(0, 2), api.After, 3},
	{span(2, 9), span(0, 2), api.MetBy, 0},
	{span(3, 9), span(0, 5), api.OverlappedBy, 2},
	{span(3, 9), span(3, 5), api.StartedBy, 4},
	{span(1, 9), span(4, 5), api.Contains, 3},
	{span(1, 9), span(4, 9), api.FinishedBy, 3},

	// Spans whose Start and End are the same.
	{span(0, 0), span(0, 0), api.Equals, 0},
	{span(0, 0), span(1, 1), api.Before, 1},
	{span(1, 1), span(0, 0), api.After, 1},
	{span(2, 2), span(2, 5), api.Starts, 3},
	{span(2, 5), span(2, 2), api.StartedBy, 3},
	{span(5, 5), span(2, 5), api.Finishes, 3},
	{span(2, 5), span(5, 5), api.FinishedBy, 3},
	{span(3, 3), span(2, 5), api.During, 1},
	{span(2, 5), span(3, 3), api.Contains, 1},

	// The first and the last time.
	{span(0, 0), span(api.MaxTime, api.MaxTime), api.Before, api.MaxTime},
	{span(api.MaxTime, api.MaxTime), span(0, 0), api.After, api.MaxTime},
	{span(0, 0), span(0, api.MaxTime), api.Starts, api.MaxTime},
	{span(api.MaxTime, api.MaxTime), span(0, api.MaxTime), api.Finishes, api.MaxTime},
	{span(0, api.MaxTime), span(0, api.MaxTime), api.Equals, 0},
	{span(api.MaxTime, api.MaxTime), span(api.MaxTime, api.MaxTime), api.Equals, 0},
}

// smallSpans: all spans within a few times.
func smallSpans() []api.Span {
	var l []api.Span
	for start := range 6 {
		for end := start; end < 6; end++ {
			l = append(l, span(start, end))
		}
	}
	return l
}

// P1.1
func TestCheck(t *testing.T) {
	for _, s := range []api.Span{
		span(0, 0), span(0, 1), span(3, 3), span(3, 7),
		span(0, api.MaxTime), span(api.MaxTime, api.MaxTime), span(api.MaxTime-1, api.MaxTime),
	} {
		if e := Check(s); e != api.OK {
			t.Errorf("Check(%v): %v", s, e)
		}
	}
	for _, c := range badSpans {
		if e := Check(c.s); e != c.want {
			t.Errorf("Check(%v): %v, want %v", c.s, e, c.want)
		}
	}
}

// P1.2
func TestAdd(t *testing.T) {
	for _, c := range []struct {
		t, delta, sum int
		e             api.Errno
	}{
		{5, 3, 8, api.OK},
		{0, 0, 0, api.OK},
		{7, 0, 7, api.OK},
		{0, api.MaxTime, api.MaxTime, api.OK},
		{api.MaxTime, 0, api.MaxTime, api.OK},
		{api.MaxTime - 1, 1, api.MaxTime, api.OK},
		{api.MaxTime, 1, 0, api.ErrOver},
		{api.MaxTime - 1, 2, 0, api.ErrOver},
		{0, api.MaxTime + 1, 0, api.ErrOver},
		{1, math.MaxInt, 0, api.ErrOver},
		{api.MaxTime, math.MaxInt, 0, api.ErrOver},
		{5, -1, 0, api.ErrRange},
		{5, math.MinInt, 0, api.ErrRange},
		{api.MaxTime, -1, 0, api.ErrRange},
		{api.MaxTime + 1, -1, 0, api.ErrRange},
		{api.MaxTime + 1, api.MaxTime, 0, api.ErrRange},
		{-1, api.MaxTime + 2, 0, api.ErrRange},
	} {
		if sum, e := Add(c.t, c.delta); sum != c.sum || e != c.e {
			t.Errorf("Add(%d, %d): %d, %v, want %d, %v", c.t, c.delta, sum, e, c.sum, c.e)
		}
	}
	for _, n := range noTimes {
		if sum, e := Add(n, 1); sum != 0 || e != api.ErrRange {
			t.Errorf("Add(%d, 1): %d, %v", n, sum, e)
		}
	}
}

// P1.3
func TestInverse(t *testing.T) {
	for _, c := range [][2]int{
		{api.Before, api.After}, {api.Meets, api.MetBy}, {api.Overlaps, api.OverlappedBy}, {api.Starts, api.StartedBy},
		{api.During, api.Contains}, {api.Finishes, api.FinishedBy}, {api.Equals, api.Equals},
	} {
		if r, e := Inverse(c[0]); r != c[1] || e != api.OK {
			t.Errorf("Inverse(%d): %d, %v, want %d", c[0], r, e, c[1])
		}
		if r, e := Inverse(c[1]); r != c[0] || e != api.OK {
			t.Errorf("Inverse(%d): %d, %v, want %d", c[1], r, e, c[0])
		}
	}
	for _, r := range noRelations {
		if got, e := Inverse(r); got != 0 || e != api.ErrKind {
			t.Errorf("Inverse(%d): %d, %v", r, got, e)
		}
	}
}

// P1.3
func TestHoldsAndWhichOfPairs(t *testing.T) {
	for _, c := range pairs {
		if r, e := Which(c.a, c.b); r != c.relation || e != api.OK {
			t.Errorf("Which(%v, %v): %d, %v, want %d", c.a, c.b, r, e, c.relation)
		}
		for r := api.Before; r <= api.Equals; r++ {
			if got, e := Holds(r, c.a, c.b); got != (r == c.relation) || e != api.OK {
				t.Errorf("Holds(%d, %v, %v): %v, %v", r, c.a, c.b, got, e)
			}
		}
	}
}

// byOrder: the relation of two spans, found by how their Starts and their Ends are ordered.
func byOrder(a, b api.Span) int {
	switch {
	case a.Start < b.Start && a.End < b.End && a.End < b.Start:
		return api.Before
	case a.Start < b.Start && a.End < b.End && a.End == b.Start:
		return api.Meets
	case a.Start < b.Start && a.End < b.End:
		return api.Overlaps
	case a.Start < b.Start && a.End == b.End:
		return api.FinishedBy
	case a.Start < b.Start:
		return api.Contains
	case a.Start == b.Start && a.End < b.End:
		return api.Starts
	case a.Start == b.Start && a.End == b.End:
		return api.Equals
	case a.Start == b.Start:
		return api.StartedBy
	case a.End < b.End:
		return api.During
	case a.End == b.End:
		return api.Finishes
	case a.Start > b.End:
		return api.After
	case a.Start == b.End:
		return api.MetBy
	}
	return api.OverlappedBy
}

// P1.3: all small spans, beside another way to find their relation.
func TestHoldsAndWhichOfSmallSpans(t *testing.T) {
	for _, a := range smallSpans() {
		for _, b := range smallSpans() {
			want := byOrder(a, b)
			if r, e := Which(a, b); r != want || e != api.OK {
				t.Errorf("Which(%v, %v): %d, %v, want %d", a, b, r, e, want)
			}
			for r := api.Before; r <= api.Equals; r++ {
				if got, e := Holds(r, a, b); got != (r == want) || e != api.OK {
					t.Errorf("Holds(%d, %v, %v): %v, %v", r, a, b, got, e)
				}
				inverse, _ := Inverse(r)
				if got, e := Holds(inverse, b, a); got != (r == want) || e != api.OK {
					t.Errorf("Holds(%d, %v, %v): %v, %v", inverse, b, a, got, e)
				}
			}
		}
	}
}

// P1.3, P1.4: no such relation goes ahead of spans that may not be.
func TestNoSuchRelation(t *testing.T) {
	for _, r := range noRelations {
		for _, s := range []api.Span{span(0, 1), span(-1, 0), span(1, 0)} {
			if got, e := Holds(r, s, s); got || e != api.ErrKind {
				t.Errorf("Holds(%d, %v, %v): %v, %v", r, s, s, got, e)
			}
			if got, e := Distance(r, s, s); got != 0 || e != api.ErrKind {
				t.Errorf("Distance(%d, %v, %v): %d, %v", r, s, s, got, e)
			}
		}
	}
}

// refusesSpans: do Holds, Distance, Which and Fits all refuse these spans so, by each relation?
func refusesSpans(t *testing.T, a, b api.Span, want api.Errno) {
	t.Helper()
	if got, e := Which(a, b); got != 0 || e != want {
		t.Errorf("Which(%v, %v): %d, %v, want %v", a, b, got, e, want)
	}
	for r := api.Before; r <= api.Equals; r++ {
		if got, e := Holds(r, a, b); got || e != want {
			t.Errorf("Holds(%d, %v, %v): %v, %v, want %v", r, a, b, got, e, want)
		}
		if got, e := Distance(r, a, b); got != 0 || e != want {
			t.Errorf("Distance(%d, %v, %v): %d, %v, want %v", r, a, b, got, e, want)
		}
		if got, e := Fits(option(r, 0, -1), a, b); got || e != want {
			t.Errorf("Fits(%d, %v, %v): %v, %v, want %v", r, a, b, got, e, want)
		}
	}
}

// P1.3, P1.4, P1.5: the first span's error goes ahead of the other one's.
func TestBadSpans(t *testing.T) {
	for _, c := range badSpans {
		refusesSpans(t, c.s, span(0, 1), c.want)
		refusesSpans(t, span(0, 1), c.s, c.want)
		refusesSpans(t, c.s, span(1, 0), c.want)
		refusesSpans(t, c.s, span(-1, 0), c.want)
	}
}

// P1.4
func TestDistanceOfPairs(t *testing.T) {
	for _, c := range pairs {
		inverse, _ := Inverse(c.relation)
		if d, e := Distance(c.relation, c.a, c.b); d != c.distance || e != api.OK {
			t.Errorf("Distance(%d, %v, %v): %d, %v, want %d", c.relation, c.a, c.b, d, e, c.distance)
		}
		if d, e := Distance(inverse, c.b, c.a); d != c.distance || e != api.OK {
			t.Errorf("Distance(%d, %v, %v): %d, %v, want %d", inverse, c.b, c.a, d, e, c.distance)
		}
		for r := api.Before; r <= api.Equals; r++ {
			if r == c.relation {
				continue
			}
			if d, e := Distance(r, c.a, c.b); d != 0 || e != api.ErrNone {
				t.Errorf("Distance(%d, %v, %v): %d, %v, want %v", r, c.a, c.b, d, e, api.ErrNone)
			}
		}
	}
}

// P1.5
func TestCheckOption(t *testing.T) {
	for _, c := range []struct {
		low, high int
		want      api.Errno
	}{
		{0, -1, api.OK},
		{0, 0, api.OK},
		{0, api.MaxGap, api.OK},
		{3, 4, api.OK},
		{3, 3, api.OK},
		{api.MaxGap, -1, api.OK},
		{api.MaxGap, api.MaxGap, api.OK},
		{-1, -1, api.ErrRange},
		{-1, 3, api.ErrRange},
		{0, -2, api.ErrRange},
		{0, api.MaxGap + 1, api.ErrRange},
		{api.MaxGap + 1, -1, api.ErrRange},
		{api.MaxGap + 1, api.MaxGap + 1, api.ErrRange},
		{api.MaxGap + 1, 0, api.ErrRange}, // out of order, too
		{2, -2, api.ErrRange},             // out of order, too
		{math.MinInt, math.MaxInt, api.ErrRange},
		{math.MaxInt, math.MinInt, api.ErrRange},
		{1, 0, api.ErrOrder},
		{4, 3, api.ErrOrder},
		{api.MaxGap, api.MaxGap - 1, api.ErrOrder},
	} {
		for r := api.Before; r <= api.Equals; r++ {
			if e := CheckOption(option(r, c.low, c.high)); e != c.want {
				t.Errorf("CheckOption(%d, %d, %d): %v, want %v", r, c.low, c.high, e, c.want)
			}
		}
	}
	for _, r := range noRelations {
		for _, o := range []api.Option{option(r, 0, -1), option(r, -1, -1), option(r, 1, 0)} {
			if e := CheckOption(o); e != api.ErrKind {
				t.Errorf("CheckOption(%v): %v, want %v", o, e, api.ErrKind)
			}
		}
	}
}

// P1.5
func TestFitsBounds(t *testing.T) {
	a, b := span(0, 2), span(5, 9) // 3 apart
	far := span(api.MaxTime, api.MaxTime)
	for _, c := range []struct {
		o    api.Option
		a, b api.Span
		want bool
	}{
		{option(api.Before, 0, -1), a, b, true},
		{option(api.Before, 3, -1), a, b, true},
		{option(api.Before, 4, -1), a, b, false},
		{option(api.Before, 3, 3), a, b, true},
		{option(api.Before, 0, 3), a, b, true},
		{option(api.Before, 0, 2), a, b, false},
		{option(api.Before, 4, 5), a, b, false},
		{option(api.Before, 0, 0), a, b, false},
		{option(api.After, 3, 3), a, b, false}, // it does not hold
		{option(api.After, 3, 3), b, a, true},
		{option(api.After, 4, 9), b, a, false},
		{option(api.Meets, 0, 0), span(0, 2), span(2, 3), true},
		{option(api.Meets, 1, -1), span(0, 2), span(2, 3), false},
		{option(api.Equals, 0, 0), a, a, true},
		{option(api.Equals, 1, 1), a, a, false},
		{option(api.Before, api.MaxGap, -1), span(0, 0), far, true},
		{option(api.Before, 0, api.MaxGap), span(0, 0), far, false},
		{option(api.Before, api.MaxGap, api.MaxGap), span(0, 0), span(api.MaxGap, api.MaxGap), true},
	} {
		if got, e := Fits(c.o, c.a, c.b); got != c.want || e != api.OK {
			t.Errorf("Fits(%v, %v, %v): %v, %v, want %v", c.o, c.a, c.b, got, e, c.want)
		}
	}
}

// P1.5: what Fits answers is what Holds and Distance answer.
func TestFitsOfPairs(t *testing.T) {
	for _, c := range pairs {
		for r := api.Before; r <= api.Equals; r++ {
			if got, e := Fits(option(r, 0, -1), c.a, c.b); got != (r == c.relation) || e != api.OK {
				t.Errorf("Fits(%d, %v, %v): %v, %v", r, c.a, c.b, got, e)
			}
		}
		if c.distance > api.MaxGap {
			continue
		}
		if got, e := Fits(option(c.relation, c.distance, c.distance), c.a, c.b); !got || e != api.OK {
			t.Errorf("Fits(%d, %v, %v) at its distance: %v, %v", c.relation, c.a, c.b, got, e)
		}
		if got, e := Fits(option(c.relation, c.distance+1, -1), c.a, c.b); got || e != api.OK {
			t.Errorf("Fits(%d, %v, %v) above its distance: %v, %v", c.relation, c.a, c.b, got, e)
		}
	}
}

// P1.5: what is refused of the option goes ahead of what is refused of the spans.
func TestFitsRefusesOptionFirst(t *testing.T) {
	for _, c := range []struct {
		o    api.Option
		want api.Errno
	}{
		{option(0, -1, 0), api.ErrKind},
		{option(api.Equals+1, 2, 1), api.ErrKind},
		{option(api.Before, -1, 0), api.ErrRange},
		{option(api.Before, 0, -2), api.ErrRange},
		{option(api.Before, 2, 1), api.ErrOrder},
	} {
		for _, s := range []api.Span{span(0, 1), span(-1, 0), span(1, 0)} {
			if got, e := Fits(c.o, s, s); got || e != c.want {
				t.Errorf("Fits(%v, %v, %v): %v, %v, want %v", c.o, s, s, got, e, c.want)
			}
		}
	}
}
