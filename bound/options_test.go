package bound

import (
	"fmt"
	"math"
	"math/rand"
	"testing"

	"dotterel/api"
	"dotterel/tick"
)

const gap = api.MaxGap

// opt: an option, told shortly.
func opt(relation, low, high int) api.Option {
	return api.Option{Relation: relation, Low: low, High: high}
}

// relationBounds: each relation with any distance, as the chapter says it, written out: Start of a, End of a, Start of b, End of b.
func relationBounds(r int) api.Matrix {
	switch r {
	case api.Before:
		return api.Matrix{{0, 0, -1, -1}, {none, 0, -1, -1}, {none, none, 0, 0}, {none, none, none, 0}}
	case api.After:
		return api.Matrix{{0, 0, none, none}, {none, 0, none, none}, {-1, -1, 0, 0}, {-1, -1, none, 0}}
	case api.Meets:
		return api.Matrix{{0, -1, -1, -2}, {none, 0, 0, -1}, {none, 0, 0, -1}, {none, none, none, 0}}
	case api.MetBy:
		return api.Matrix{{0, -1, none, 0}, {none, 0, none, none}, {-1, -2, 0, -1}, {0, -1, none, 0}}
	case api.Overlaps:
		return api.Matrix{{0, -2, -1, -3}, {none, 0, none, -1}, {none, -1, 0, -2}, {none, none, none, 0}}
	case api.OverlappedBy:
		return api.Matrix{{0, -2, none, -1}, {none, 0, none, none}, {-1, -3, 0, -2}, {none, -1, none, 0}}
	case api.Starts:
		return api.Matrix{{0, 0, 0, -1}, {none, 0, none, -1}, {0, 0, 0, -1}, {none, none, none, 0}}
	case api.StartedBy:
		return api.Matrix{{0, -1, 0, 0}, {none, 0, none, none}, {0, -1, 0, 0}, {none, -1, none, 0}}
	case api.During:
		return api.Matrix{{0, 0, none, -1}, {none, 0, none, -1}, {-1, -1, 0, -2}, {none, none, none, 0}}
	case api.Contains:
		return api.Matrix{{0, -2, -1, -1}, {none, 0, none, none}, {none, -1, 0, 0}, {none, -1, none, 0}}
	case api.Finishes:
		return api.Matrix{{0, 0, none, 0}, {none, 0, none, 0}, {-1, -1, 0, -1}, {none, 0, none, 0}}
	case api.FinishedBy:
		return api.Matrix{{0, -1, -1, -1}, {none, 0, none, 0}, {none, 0, 0, 0}, {none, 0, none, 0}}
	}
	return api.Matrix{{0, 0, 0, 0}, {none, 0, none, 0}, {0, 0, 0, 0}, {none, 0, none, 0}}
}

// TestOptionsRelations: P8.5: each relation alone, any distance.
func TestOptionsRelations(t *testing.T) {
	for r := api.Before; r <= api.Equals; r++ {
		m, e := Options([]api.Option{{Relation: r, High: -1}})
		wantMatrix(t, fmt.Sprint("relation ", r), m, e, relationBounds(r), api.OK)
	}
}

// TestOptionsGaps: P8.5: distances from Low to High, at their edges.
func TestOptionsGaps(t *testing.T) {
	for i, c := range []struct {
		o    api.Option
		want api.Matrix
	}{
		{api.Option{Relation: api.Before, Low: 3, High: 3}, api.Matrix{{0, 0, -3, -3}, {none, 0, -3, -3}, {none, 3, 0, 0}, {none, none, none, 0}}},
		{api.Option{Relation: api.Before, Low: 0, High: 1}, api.Matrix{{0, 0, -1, -1}, {none, 0, -1, -1}, {none, 1, 0, 0}, {none, none, none, 0}}},
		{api.Option{Relation: api.Before, Low: gap, High: gap}, api.Matrix{{0, 0, -gap, -gap}, {none, 0, -gap, -gap}, {none, gap, 0, 0}, {none, none, none, 0}}},
		{api.Option{Relation: api.After, Low: 2, High: 7}, api.Matrix{{0, 0, none, 7}, {none, 0, none, none}, {-2, -2, 0, 0}, {-2, -2, none, 0}}},
		{api.Option{Relation: api.Overlaps, Low: 2, High: 4}, api.Matrix{{0, -3, -1, -4}, {none, 0, 4, -1}, {none, -2, 0, -3}, {none, none, none, 0}}},
		{api.Option{Relation: api.Starts, Low: gap, High: -1}, api.Matrix{{0, 0, 0, -gap}, {none, 0, none, -gap}, {0, 0, 0, -gap}, {none, none, none, 0}}},
		{api.Option{Relation: api.During, Low: 5, High: 6}, api.Matrix{{0, 0, 6, -1}, {none, 0, none, -1}, {-5, -5, 0, -6}, {none, none, none, 0}}},
		{api.Option{Relation: api.Contains, Low: 5, High: 6}, api.Matrix{{0, -6, -5, -5}, {none, 0, none, none}, {6, -1, 0, 0}, {none, -1, none, 0}}},
		{api.Option{Relation: api.Finishes, Low: 5, High: 6}, api.Matrix{{0, 0, 6, 0}, {none, 0, none, 0}, {-5, -5, 0, -5}, {none, 0, none, 0}}},
		{api.Option{Relation: api.Meets, Low: 0, High: 0}, relationBounds(api.Meets)},
		{api.Option{Relation: api.Meets, Low: 0, High: gap}, relationBounds(api.Meets)},
		{api.Option{Relation: api.Equals, Low: 0, High: 0}, relationBounds(api.Equals)},
	} {
		m, e := Options([]api.Option{c.o})
		wantMatrix(t, fmt.Sprint("case ", i), m, e, c.want, api.OK)
	}
}

// never: an option that may be, and cannot be: a distance of 0 where the relation asks for more, or of more where it is 0.
func never(o api.Option) bool {
	switch o.Relation {
	case api.Meets, api.MetBy, api.Equals:
		return o.Low > 0
	}
	return o.High == 0
}

// TestOptionsNever: P8.5: options that cannot be, alone, several of them, and beside others.
func TestOptionsNever(t *testing.T) {
	m, e := Options(nil)
	wantMatrix(t, "nil", m, e, nil, api.ErrNever)
	m, e = Options([]api.Option{})
	wantMatrix(t, "no options", m, e, nil, api.ErrNever)
	var all []api.Option
	for r := api.Before; r <= api.Equals; r++ {
		for _, o := range []api.Option{opt(r, 0, 0), opt(r, 1, 1), opt(r, 1, -1), opt(r, gap, gap), opt(r, gap, -1)} {
			m, e := Options([]api.Option{o})
			if never(o) {
				all = append(all, o)
				wantMatrix(t, fmt.Sprint(o), m, e, nil, api.ErrNever)
			} else if e != api.OK || len(m) != 4 {
				t.Errorf("%v: %v, %v", o, m, e)
			}
		}
	}
	m, e = Options(all)
	wantMatrix(t, "all that cannot be", m, e, nil, api.ErrNever)
	for i := range len(all) + 1 {
		l := append(append(append([]api.Option{}, all[:i]...), api.Option{Relation: api.During, High: -1}), all[i:]...)
		m, e := Options(l)
		wantMatrix(t, fmt.Sprint("one that can be at ", i), m, e, relationBounds(api.During), api.OK)
	}
}

// TestOptionsSeveral: P8.5: bound by bound the greater one over all pairs and triples of relations.
func TestOptionsSeveral(t *testing.T) {
	for r := range 13 {
		for s := range 13 {
			for u := range 13 {
				l := []api.Option{opt(r+1, 0, -1), opt(s+1, 0, -1), opt(u+1, 0, -1)}
				want := zeros(4)
				for i := range want {
					for k := range want {
						want[i][k] = max(relationBounds(r + 1)[i][k], relationBounds(s + 1)[i][k], relationBounds(u + 1)[i][k])
					}
				}
				m, e := Options(l)
				wantMatrix(t, fmt.Sprint(l), m, e, want, api.OK)
			}
		}
	}
}

// TestOptionsRefuse: P8.5: an option that may not be, at each place; the first one is told, ahead of those that cannot be.
func TestOptionsRefuse(t *testing.T) {
	bad := []struct {
		o api.Option
		e api.Errno
	}{
		{api.Option{Relation: 0, High: -1}, api.ErrKind},
		{api.Option{Relation: 14, Low: -1}, api.ErrKind},
		{api.Option{Relation: math.MinInt}, api.ErrKind},
		{api.Option{Relation: api.Before, Low: -1, High: 3}, api.ErrRange},
		{api.Option{Relation: api.Equals, Low: gap + 1, High: -1}, api.ErrRange},
		{api.Option{Relation: api.Meets, Low: 0, High: -2}, api.ErrRange},
		{api.Option{Relation: api.During, Low: 0, High: gap + 1}, api.ErrRange},
		{api.Option{Relation: api.During, Low: math.MaxInt, High: math.MinInt}, api.ErrRange},
		{api.Option{Relation: api.Starts, Low: 2, High: 1}, api.ErrOrder},
		{api.Option{Relation: api.After, Low: gap, High: gap - 1}, api.ErrOrder},
	}
	fill := []api.Option{opt(api.Before, 0, -1), opt(api.Equals, 1, 1), opt(api.During, 0, 0), opt(api.Contains, gap, gap)}
	for _, c := range bad {
		for n := 1; n <= len(fill)+1; n++ {
			for at := range n {
				l := append([]api.Option{}, fill[:at]...)
				l = append(append(l, c.o), fill[at:n-1]...)
				m, e := Options(l)
				wantMatrix(t, fmt.Sprint(l), m, e, nil, c.e)
			}
		}
		for _, d := range bad {
			m, e := Options([]api.Option{fill[1], c.o, fill[0], d.o})
			wantMatrix(t, fmt.Sprint(c.o, d.o), m, e, nil, c.e)
		}
	}
}

// spans within so much time.
func spans(most int) []api.Span {
	var l []api.Span
	for s := range most + 1 {
		for e := s; e <= most; e++ {
			l = append(l, api.Span{Start: s, End: e})
		}
	}
	return l
}

// widest: of all pairs of spans in that time that fit one of the options, how far each point lies from each other one at most; nothing fits: nil.
func widest(t *testing.T, l []api.Option, time int) api.Matrix {
	t.Helper()
	var out api.Matrix
	for _, a := range spans(time) {
		for _, b := range spans(time) {
			for _, o := range l {
				ok, e := tick.Fits(o, a, b)
				if e != api.OK {
					t.Fatalf("%v: %v", o, e)
				}
				if !ok {
					continue
				}
				p := [4]int{a.Start, a.End, b.Start, b.End}
				if out == nil {
					out = zeros(4)
					for i := range p {
						for k := range p {
							out[i][k] = p[i] - p[k]
						}
					}
				}
				for i := range p {
					for k := range p {
						out[i][k] = max(out[i][k], p[i]-p[k])
					}
				}
			}
		}
	}
	return out
}

// TestOptionsFit: P8.5: drawn options against all pairs of spans of some time: what fits is allowed, and each bound is reached.
func TestOptionsFit(t *testing.T) {
	const time, small = 12, 3
	r := rand.New(rand.NewSource(85))
	for range 150 {
		var l []api.Option
		for range 1 + r.Intn(3) {
			o := api.Option{Relation: 1 + r.Intn(13), Low: r.Intn(small), High: -1}
			if r.Intn(2) == 0 {
				o.High = o.Low + r.Intn(small+1-o.Low)
			}
			l = append(l, o)
		}
		want := widest(t, l, time)
		got, e := Options(l)
		if want == nil {
			wantMatrix(t, fmt.Sprint(l), got, e, nil, api.ErrNever)
			continue
		}
		if e != api.OK || Check(got) != api.OK {
			t.Fatalf("%v: %v, %v", l, got, e)
		}
		for i := range got {
			for k := range got[i] {
				// What no option bounds goes as far as the time does, but for what lies about it.
				if free := want[i][k] >= time-2*small; free != (got[i][k] == none) || !free && got[i][k] != want[i][k] {
					t.Errorf("%v: at %d, %d: %d; of all spans %d", l, i, k, got[i][k], want[i][k])
				}
			}
		}
	}
}

// TestOptionsMany: P8.5: a list has no limit of its own.
func TestOptionsMany(t *testing.T) {
	l := make([]api.Option, 20000)
	for i := range l {
		l[i] = api.Option{Relation: api.Before, Low: 20000 - i, High: 20000 - i}
	}
	m, e := Options(l)
	wantMatrix(t, "many", m, e, api.Matrix{{0, 0, -1, -1}, {none, 0, -1, -1}, {none, 20000, 0, 0}, {none, none, none, 0}}, api.OK)
}
