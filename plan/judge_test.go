package plan

import (
	"fmt"
	"math/rand"
	"slices"
	"testing"

	"dotterel/api"
	"dotterel/check"
)

// told: of two points, by their names (a pattern's, and s or e), how much the first one is behind the other at most. What is not there is not bounded.
type told map[[2]string]int

func (m told) most(p, q string) int {
	if n, ok := m[[2]string{p, q}]; ok {
		return n
	}
	return none
}

func (m told) add(p, q string, most int) {
	if most < m.most(p, q) {
		m[[2]string{p, q}] = most
	}
}

// solved: what comes of it along ways of points, a step longer each time; false: a way comes back below 0.
func (m told) solved(vars ...string) (told, bool) {
	var points []string
	out := told{}
	for _, v := range vars {
		points = append(points, v+"s", v+"e")
		out[[2]string{v + "s", v + "s"}], out[[2]string{v + "e", v + "e"}] = 0, 0
	}
	for range points {
		longer := told{}
		for way, n := range out {
			longer.add(way[0], way[1], n)
			for _, p := range points {
				if k := m.most(way[1], p); k != none {
					longer.add(way[0], p, n+k)
				}
			}
		}
		out = longer
	}
	for _, p := range points {
		if out.most(p, p) < 0 {
			return nil, false
		}
	}
	return out, true
}

// says: what each relation from a to b says of their points, by the words of chapter 1: < ahead, = alike; and from where to where the distance goes.
func says(relation int, a, b string) (marks [][3]string, from, to string) {
	as, ae, bs, be := a+"s", a+"e", b+"s", b+"e"
	switch relation {
	case api.Before:
		return [][3]string{{ae, "<", bs}}, ae, bs
	case api.Meets:
		return [][3]string{{ae, "=", bs}, {as, "<", bs}, {ae, "<", be}}, as, as
	case api.Overlaps:
		return [][3]string{{as, "<", bs}, {bs, "<", ae}, {ae, "<", be}}, bs, ae
	case api.Starts:
		return [][3]string{{as, "=", bs}, {ae, "<", be}}, ae, be
	case api.During:
		return [][3]string{{bs, "<", as}, {ae, "<", be}}, bs, as
	case api.Finishes:
		return [][3]string{{bs, "<", as}, {ae, "=", be}}, bs, as
	case api.Equals:
		return [][3]string{{as, "=", bs}, {ae, "=", be}}, as, as
	}
	return says(relation-1, b, a) // each even one is the inverse of the one ahead of it
}

// option from a to b, solved; false: it can't be.
func option(o api.Option, a, b string) (told, bool) {
	m := told{}
	m.add(a+"s", a+"e", 0)
	m.add(b+"s", b+"e", 0)
	marks, from, to := says(o.Relation, a, b)
	for _, k := range marks {
		if k[1] == "<" {
			m.add(k[0], k[2], -1)
			continue
		}
		m.add(k[0], k[2], 0)
		m.add(k[2], k[0], 0)
	}
	m.add(from, to, -o.Low)
	if o.High >= 0 {
		m.add(to, from, o.High)
	}
	return m.solved(a, b)
}

// options of a link: of those that can be, bound by bound the greatest; false: none can.
func options(k api.Link) (told, bool) {
	var l []told
	for _, o := range k.Options {
		if m, ok := option(o, k.Left, k.Right); ok {
			l = append(l, m)
		}
	}
	if len(l) == 0 {
		return nil, false
	}
	out := told{}
	for way, n := range l[0] {
		for _, m := range l {
			n = max(n, m.most(way[0], way[1]))
		}
		if n != none {
			out[way] = n
		}
	}
	return out, true
}

// together: the bounds of a rule, and of nots of it; false: they can't be.
func together(r api.Rule, nots ...string) (told, bool) {
	m := told{}
	vars := slices.Clone(nots)
	for _, w := range r.Whens {
		vars = append(vars, w.Var)
		for _, v := range r.Whens {
			if w.Window == api.Time && v.Var != w.Var {
				m.add(v.Var+"e", w.Var+"e", w.N)
			}
		}
	}
	for _, v := range vars {
		m.add(v+"s", v+"e", 0)
	}
	for _, k := range r.Links {
		if !slices.Contains(vars, k.Left) || !slices.Contains(vars, k.Right) {
			continue
		}
		o, ok := options(k)
		if !ok {
			return nil, false
		}
		for way, n := range o {
			m.add(way[0], way[1], n)
		}
	}
	return m.solved(vars...)
}

// judged: the plan of a rule, read from the chapter.
func judged(r api.Rule) (api.Plan, api.Errno) {
	own, ok := together(r)
	if !ok {
		return api.Plan{}, api.ErrNever
	}
	var p api.Plan
	for _, u := range r.Nots {
		m, ok := together(r, u.Var)
		if !ok {
			continue
		}
		wait := none
		for _, w := range r.Whens {
			wait = min(wait, m.most(u.Var+"e", w.Var+"e"))
		}
		if wait == none {
			return api.Plan{}, api.ErrEndless
		}
		p.Delay = max(p.Delay, wait)
	}
	behind := func(m told, v string) int {
		var l []int
		for _, w := range r.Whens {
			l = append(l, m.most(w.Var+"e", v+"e"))
		}
		if n := slices.Max(l); n != none {
			return n + p.Delay + 1
		}
		return none
	}
	for _, w := range r.Whens {
		p.Whens = append(p.Whens, behind(own, w.Var))
	}
	for _, u := range r.Nots {
		need := 0
		if m, ok := together(r, u.Var); ok {
			need = max(0, behind(m, u.Var))
		}
		p.Nots = append(p.Nots, need)
	}
	for _, m := range r.Manies {
		p.Manies = append(p.Manies, m.Pattern.N+p.Delay+1)
	}
	return p, api.OK
}

// judgedOffsets of a book, read from the chapter.
func judgedOffsets(b api.Book) ([]int, api.Errno) {
	if e := check.Check(b); e != api.OK {
		return nil, e
	}
	needs := map[string][]int{}
	for _, r := range b.Rules {
		p, e := judged(r)
		if e != api.OK {
			return nil, e
		}
		for i, w := range r.Whens {
			needs[w.Type] = append(needs[w.Type], p.Whens[i])
		}
		for i, u := range r.Nots {
			needs[u.Type] = append(needs[u.Type], p.Nots[i])
		}
		for i, m := range r.Manies {
			needs[m.Pattern.Type] = append(needs[m.Pattern.Type], p.Manies[i])
		}
	}
	var out []int
	for _, t := range b.Types {
		out = append(out, slices.Max(append(needs[t.Name], 0)))
	}
	return out, api.OK
}

// drawer of books, most of which may be.
type drawer struct {
	*rand.Rand
	great bool // numbers up to the limits
}

func pick[T any](d drawer, l ...T) T { return l[d.Intn(len(l))] }

func (d drawer) number() int {
	if d.great {
		return pick(d, 0, 1, gap, gap-1, gap/2, d.Intn(gap))
	}
	return d.Intn(6)
}

func (d drawer) option() api.Option {
	// Those of which both ends are bounded come more often: else nearly every rule with a not is endless.
	o := api.Option{Relation: pick(d, 1+d.Intn(api.Equals), api.Starts, api.StartedBy, api.Finishes, api.Equals, api.During), Low: d.number(), High: d.number()}
	if o.Relation == api.Equals || o.Relation == api.Meets || o.Relation == api.MetBy {
		o.Low = d.Intn(10) / 9
	}
	if o.High < o.Low {
		o.Low, o.High = o.High, o.Low
	}
	if d.Intn(3) == 0 {
		o.High = -1
	}
	return o
}

func (d drawer) link(left, right string) api.Link {
	if d.Intn(2) == 0 {
		left, right = right, left
	}
	k := api.Link{Left: left, Right: right}
	for range pick(d, 1, 1, 1, 2, 3, 1+d.Intn(api.MaxLinks)) {
		k.Options = append(k.Options, d.option())
	}
	return k
}

func (d drawer) rule(name string) api.Rule {
	r := api.Rule{Name: name}
	vars := []string{"x", "y", "z"}[:1+d.Intn(api.MaxWhens)]
	for _, v := range vars {
		p := api.Pattern{Var: v, Type: pick(d, "a", "b", "c", "d")}
		switch d.Intn(3) {
		case 0:
			p.Window, p.N = api.Time, d.number()
		case 1:
			p.Window, p.N = api.Last, 1+d.Intn(api.MaxLive)
		}
		r.Whens = append(r.Whens, p)
	}
	for i := range d.Intn(api.MaxNots + 1) {
		v := []string{"u", "v"}[i]
		r.Nots = append(r.Nots, api.Pattern{Var: v, Type: pick(d, "a", "b", "c", "d")})
		for range pick(d, 0, 1, 1, 1, 1, 2) {
			r.Links = append(r.Links, d.link(v, pick(d, vars...)))
		}
	}
	for i := range d.Intn(api.MaxManies + 1) {
		r.Manies = append(r.Manies, api.Many{Count: 1, Pattern: api.Pattern{Var: []string{"p", "q"}[i], Type: pick(d, "a", "b", "c", "d"), Window: api.Time, N: d.number()}})
	}
	for range d.Intn(3) {
		if i, k := d.Intn(len(vars)), d.Intn(len(vars)); i != k {
			r.Links = append(r.Links, d.link(vars[i], vars[k]))
		}
	}
	d.Shuffle(len(r.Links), func(i, k int) { r.Links[i], r.Links[k] = r.Links[k], r.Links[i] })
	return r
}

func (d drawer) book() api.Book {
	b := api.Book{Types: []api.Type{{Name: "a"}, {Name: "b"}, {Name: "c"}, {Name: "d"}, {Name: "e"}}}
	for i := range 1 + d.Intn(3) {
		b.Rules = append(b.Rules, d.rule([]string{"one", "two", "three"}[i]))
	}
	d.Shuffle(len(b.Types), func(i, k int) { b.Types[i], b.Types[k] = b.Types[k], b.Types[i] })
	if d.Intn(12) == 0 {
		b.Rules[d.Intn(len(b.Rules))].Name = pick(d, "", "rule", "one")
	}
	return b
}

// TestDrawn: P9.1 to P9.4: drawn books against the judge.
func TestDrawn(t *testing.T) {
	seen := map[string]int{}
	for seed := range 1500 {
		d := drawer{Rand: rand.New(rand.NewSource(int64(seed))), great: seed%4 == 0}
		b := d.book()
		for at := -1; at <= len(b.Rules); at++ {
			var want api.Plan
			wantE := check.Check(b)
			if wantE == api.OK && (at < 0 || at == len(b.Rules)) {
				wantE = api.ErrRange
			}
			if wantE == api.OK {
				want, wantE = judged(b.Rules[at])
			}
			wantPlan(t, fmt.Sprintf("%d: %+v at %d", seed, b, at), b, at, want, wantE)
			seen[fmt.Sprint("rule ", wantE)]++
			seen[fmt.Sprint("delay ", want.Delay > 0, ", a not of no need ", slices.Contains(want.Nots, 0))]++
		}
		want, wantE := judgedOffsets(b)
		wantOffsets(t, fmt.Sprintf("%d: %+v", seed, b), b, want, wantE)
		seen[fmt.Sprint("offsets ", wantE)]++
		if t.Failed() {
			return
		}
	}
	for _, s := range []string{"rule refused 0", "rule refused 15", "rule refused 16", "delay true, a not of no need false", "delay true, a not of no need true", "offsets refused 0", "offsets refused 15", "offsets refused 16"} {
		if seen[s] < 20 {
			t.Errorf("%s: just %d times: %v", s, seen[s], seen)
		}
	}
}

// TestOrder: P9.1: the order of whens, nots and links changes a plan's order, and nothing else.
func TestOrder(t *testing.T) {
	for seed := range 300 {
		d := drawer{Rand: rand.New(rand.NewSource(int64(seed)))}
		b := d.book()
		b.Rules = b.Rules[:1]
		b.Rules[0].Name = "one"
		p, e := Rule(b, 0)
		r := b.Rules[0]
		slices.Reverse(r.Whens)
		slices.Reverse(r.Nots)
		slices.Reverse(r.Manies)
		slices.Reverse(r.Links)
		for i, k := range r.Links {
			slices.Reverse(k.Options)
			r.Links[i] = turned(k)
		}
		q, f := Rule(b, 0)
		slices.Reverse(q.Whens)
		slices.Reverse(q.Nots)
		slices.Reverse(q.Manies)
		if e != f || !alike(p, q) {
			t.Errorf("%d: %+v, %v; turned %+v, %v", seed, p, e, q, f)
		}
	}
}

// turned: a link the other way round, which says the same.
func turned(k api.Link) api.Link {
	out := api.Link{Left: k.Right, Right: k.Left}
	for _, o := range k.Options {
		if o.Relation != api.Equals {
			o.Relation += 2*(o.Relation%2) - 1 // an odd one's inverse is one more, an even one's one less
		}
		out.Options = append(out.Options, o)
	}
	return out
}
