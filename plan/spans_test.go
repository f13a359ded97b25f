package plan

import (
	"fmt"
	"math/rand"
	"slices"
	"testing"

	"dotterel/api"
	"dotterel/tick"
)

// spansBy: all spans that end by a time.
func spansBy(last int) []api.Span {
	var l []api.Span
	for start := range last + 1 {
		for end := start; end <= last; end++ {
			l = append(l, api.Span{Start: start, End: end})
		}
	}
	return l
}

// leads: by how much the first one of two spans, of which an option holds, may end behind the other one, among all short ones; each once.
func leads(o api.Option, all []api.Span) []int {
	seen := map[int]int{}
	for _, a := range all {
		for _, b := range all {
			if ok, _ := tick.Fits(o, a, b); ok {
				seen[a.End-b.End]++
			}
		}
	}
	var l []int
	for n := range seen {
		l = append(l, n)
	}
	slices.Sort(l)
	return l
}

// wide: among spans that end by lastEnd a lead of so much, with numbers of an option up to 3, is there only where none is the greatest.
const (
	lastEnd = 14
	wide    = 10
)

// unbound: what is that wide is not bounded.
func unbound(n int) int {
	if n >= wide {
		return none
	}
	return n
}

// eachOption with small numbers.
func eachOption(do func(o api.Option)) {
	for r := api.Before; r <= api.Equals; r++ {
		for low := range 4 {
			for high := -1; high < 4; high++ {
				if high < 0 || high >= low {
					do(api.Option{Relation: r, Low: low, High: high})
				}
			}
		}
	}
}

// TestPairs: P9.1, P9.2: two whens, with each option between them and each window, against all short spans of which it holds.
func TestPairs(t *testing.T) {
	all := spansBy(lastEnd)
	eachOption(func(o api.Option) {
		found := leads(o, all)
		for _, nx := range []int{-1, 0, 1, 3, 4} {
			for _, ny := range []int{-1, 0, 2, 4} {
				b := one(t, "when x : a ; when y : b ;")
				r := &b.Rules[0]
				r.Links = []api.Link{{Left: "x", Options: []api.Option{o}, Right: "y"}}
				for i, n := range []int{nx, ny} {
					if n >= 0 {
						r.Whens[i].Window, r.Whens[i].N = api.Time, n
					}
				}
				l := slices.DeleteFunc(slices.Clone(found), func(lead int) bool { return nx >= 0 && -lead > nx || ny >= 0 && lead > ny })
				what := fmt.Sprint(o, " with windows ", nx, " and ", ny)
				if len(l) == 0 {
					wantPlan(t, what, b, 0, api.Plan{}, api.ErrNever)
					continue
				}
				x, y := unbound(max(0, -slices.Min(l))), unbound(max(0, slices.Max(l)))
				wantPlan(t, what, b, 0, api.Plan{Whens: ints(more(x, 1), more(y, 1))}, api.OK)
			}
		}
	})
}

// more than a bound, if it is one.
func more(n, k int) int {
	if n == none {
		return none
	}
	return n + k
}

// TestNotPairs: P9.1, P9.2: a when and a not, with each option between them, against all short spans of which it holds.
func TestNotPairs(t *testing.T) {
	all := spansBy(lastEnd)
	eachOption(func(o api.Option) {
		b := one(t, "when x : a ; not u : b ; many 1 p : c within 2 ;")
		b.Rules[0].Links = []api.Link{{Left: "u", Options: []api.Option{o}, Right: "x"}}
		l := leads(o, all)
		what := fmt.Sprint(o)
		if len(l) == 0 {
			wantPlan(t, what, b, 0, api.Plan{Whens: ints(1), Nots: ints(0), Manies: ints(3)}, api.OK)
			return
		}
		delay := unbound(max(0, slices.Max(l)))
		if delay == none {
			wantPlan(t, what, b, 0, api.Plan{}, api.ErrEndless)
			return
		}
		u := more(unbound(-slices.Min(l)), delay+1)
		wantPlan(t, what, b, 0, api.Plan{Delay: delay, Whens: ints(delay + 1), Nots: ints(u), Manies: ints(delay + 3)}, api.OK)
	})
}

// linked: may the spans of two patterns be, by all links between these?
func linked(r api.Rule, left, right string, all []api.Span) [][]bool {
	out := make([][]bool, len(all))
	for i, a := range all {
		for _, b := range all {
			ok := true
			for _, k := range r.Links {
				switch {
				case k.Left == left && k.Right == right:
					ok = ok && holds(k, a, b)
				case k.Left == right && k.Right == left:
					ok = ok && holds(k, b, a)
				}
			}
			out[i] = append(out[i], ok)
		}
	}
	return out
}

func holds(k api.Link, a, b api.Span) bool {
	return slices.ContainsFunc(k.Options, func(o api.Option) bool {
		ok, _ := tick.Fits(o, a, b)
		return ok
	})
}

// inTime: do two whens' spans lie within their windows?
func inTime(r api.Rule, x, y api.Span) bool {
	latest := max(x.End, y.End)
	for i, s := range []api.Span{x, y} {
		if w := r.Whens[i]; w.Window == api.Time && latest-s.End > w.N {
			return false
		}
	}
	return true
}

// TestNeeded: what comes of P9.2: of drawn rules of two whens and a not, with all short spans that go together: a not that blocks has come when the tuple is looked at, and whatever is needed then is needed no longer than the plan says.
func TestNeeded(t *testing.T) {
	all := spansBy(7)
	planned, blocked := 0, 0
	for seed := range 400 {
		d := drawer{Rand: rand.New(rand.NewSource(int64(seed)))}
		b := one(t, "when x : a ; when y : b ; not u : c ; many 1 p : d within 2 ;")
		r := &b.Rules[0]
		for i := range r.Whens {
			if d.Intn(2) == 0 {
				r.Whens[i].Window, r.Whens[i].N = api.Time, d.number()
			}
		}
		r.Links = []api.Link{d.link("u", pick(d, "x", "y")), d.link("u", pick(d, "x", "y")), d.link("x", "y")}[:1+d.Intn(3)]
		p, e := Rule(b, 0)
		if e == api.ErrEndless {
			continue
		}
		if e == api.OK {
			planned++
		}
		xy, ux, uy := linked(*r, "x", "y", all), linked(*r, "u", "x", all), linked(*r, "u", "y", all)
		for i, x := range all {
			for j, y := range all {
				if !xy[i][j] || !inTime(*r, x, y) {
					continue
				}
				if e != api.OK {
					t.Fatalf("%d: %+v: %v, but %v and %v go together", seed, r, e, x, y)
				}
				latest := max(x.End, y.End)
				looked := latest + p.Delay + 1
				if looked-x.End > p.Whens[0] || looked-y.End > p.Whens[1] || looked-(latest-2) > p.Manies[0] {
					t.Fatalf("%d: %+v: %+v: %v and %v are looked at at %d", seed, r, p, x, y, looked)
				}
				for k, u := range all {
					if !ux[k][i] || !uy[k][j] {
						continue
					}
					blocked++
					if u.End >= looked || looked-u.End > p.Nots[0] {
						t.Fatalf("%d: %+v: %+v: %v and %v, blocked by %v, are looked at at %d", seed, r, p, x, y, u, looked)
					}
				}
			}
		}
	}
	if planned < 100 || blocked < 10000 {
		t.Errorf("just %d plans, %d tuples that are blocked", planned, blocked)
	}
}
