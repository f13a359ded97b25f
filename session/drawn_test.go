package session

import (
	"fmt"
	"math"
	"math/rand"
	"reflect"
	"slices"
	"testing"

	"dotterel/api"
	"dotterel/join"
	"dotterel/plan"
	"dotterel/tick"
	"dotterel/value"
	"dotterel/watch"
)

// drawer of books and operations.
type drawer struct {
	*rand.Rand
	brief bool // nothing is needed for long
}

func draw(seed int) drawer { return drawer{Rand: rand.New(rand.NewSource(int64(seed)))} }

func pick[T any](d drawer, l ...T) T { return l[d.Intn(len(l))] }

// kinds of events, by their places: what a rule emits stands behind all that it hears, so that none comes of itself.
const kinds = "abcd"

// where: some condition of a pattern of a type, that may name so many whens of these types, or none.
func (d drawer) where(kind string, whens []string) string {
	if kind > "b" || d.Intn(2) == 0 {
		return ""
	}
	side := fmt.Sprint(d.Intn(3))
	if len(whens) > 0 && d.Intn(2) == 0 {
		if at := d.Intn(len(whens)); whens[at] <= "b" {
			side = fmt.Sprint("w", at, " . n")
		}
	}
	s := "n " + pick(d, "=", "/=", "<", "<=", ">", ">=") + " " + side
	return "[ " + pick(d, s, s, "not "+s, s+" or n = 0", s+" and n < 2") + " ] "
}

// link of a when to another one, of those that hold often.
func (d drawer) link(left, right string) string {
	s := pick(d, "before", "before ( 0 , 4 )", "starts ( 1 , 3 )", "equals or before ( 0 , 3 ) or after ( 0 , 3 )", "starts or startedby or equals or finishes", "during or meets or overlaps", "before or after or equals or starts")
	return "where " + left + " " + s + " " + right + " ; "
}

// not with links, so that it is mostly not waited for without end.
func (d drawer) not(at int, kinds string, whens []string) string {
	kind := string(kinds[d.Intn(len(kinds))])
	s := fmt.Sprint("not u", at, " : ", kind, " ", d.where(kind, whens), "; ")
	options := []string{"startedby ( 1 , %d )", "startedby ( 1 , %d ) or equals or finishes", "starts ( 0 , %d ) or equals"}
	if !d.brief {
		options = append(options, "startedby ( 1 , %d ) or during or equals", "startedby ( 0 , %d ) or equals or finishes or before", "before ( 0 , %d )", "starts or startedby ( 1 , %d ) or equals", "equals or before ( 0 , %d )")
	}
	for range 1 + d.Intn(2)*d.Intn(2) {
		s += "where " + fmt.Sprint("u", at, " ") + fmt.Sprintf(pick(d, options...), 1+d.Intn(4)) + fmt.Sprint(" w", d.Intn(len(whens)), " ; ")
	}
	return s
}

// rule at a place, of the first so many kinds; it may emit one behind these.
func (d drawer) rule(at, heard int) string {
	s := fmt.Sprint("rule r", at, " { ")
	var whens []string
	for i := range 1 + d.Intn(api.MaxWhens) {
		kind := string(kinds[d.Intn(heard)])
		window := fmt.Sprint("over time ", d.Intn(6), " ")
		if !d.brief {
			window = pick(d, "", "", window, fmt.Sprint("over last ", 1+d.Intn(4), " "))
		}
		s += fmt.Sprint("when w", i, " : ", kind, " ", d.where(kind, whens), window, "; ")
		whens = append(whens, kind)
	}
	if n := len(whens); n > 1 && d.Intn(4) > 0 {
		l := d.Perm(n)
		s += d.link(fmt.Sprint("w", l[0]), fmt.Sprint("w", l[1]))
	}
	for i := range pick(d, 0, 0, 1, 1, 2) {
		s += d.not(i, kinds[:heard], whens)
	}
	for i := range pick(d, 0, 0, 0, 1, 2) {
		kind := string(kinds[d.Intn(heard)])
		what := fmt.Sprint("many ", 1+d.Intn(3))
		if kind <= "b" && d.Intn(2) == 0 {
			what = fmt.Sprint("many ", d.Intn(4), " of n")
		}
		s += fmt.Sprint(what, " p", i, " : ", kind, " ", d.where(kind, whens), "within ", d.Intn(9), " ; ")
	}
	if heard < len(kinds) && d.Intn(3) > 0 {
		kind := string(kinds[heard+d.Intn(len(kinds)-heard)])
		s += fmt.Sprint("emit ", kind, " ( ", map[string]string{"b": d.number(whens) + ` , "s" `}[kind], ") ; ")
	}
	return s + "} "
}

// number that is emitted, of a when or a constant.
func (d drawer) number(whens []string) string {
	if at := d.Intn(len(whens)); whens[at] <= "b" && d.Intn(3) > 0 {
		return fmt.Sprint("w", at, " . n")
	}
	return fmt.Sprint(d.Intn(3))
}

// source of a book of which nothing is refused.
func (d drawer) source() string {
	for {
		s := types
		for i := range 1 + d.Intn(4) {
			s += d.rule(i, 1+d.Intn(len(kinds)))
		}
		if _, _, e := Load(s); e == api.OK {
			return s
		}
	}
}

// event that comes at a time.
func (d drawer) event(now int) api.Operation {
	kind := string(kinds[d.Intn(len(kinds))])
	o := insert(kind, max(now-d.Intn(4), 0), now)
	if kind <= "b" {
		o.Values = append(o.Values, num(d.Intn(5)-1))
	}
	if kind == "b" {
		o.Values = append(o.Values, text("s"))
	}
	return o
}

// operations, so many of them; few are refused.
func (d drawer) operations(n int) []api.Operation {
	var l []api.Operation
	now := 0
	for range n {
		switch d.Intn(8) {
		case 0, 1:
			k := d.Intn(4) * (1 + d.Intn(2))
			now += k
			l = append(l, api.Operation{Kind: api.Advance, Delta: k, Collect: d.Intn(2) == 0})
		case 2:
			l = append(l, query(string(kinds[d.Intn(len(kinds))])))
		default:
			l = append(l, d.event(now))
		}
	}
	return append(l, api.Operation{Kind: api.Advance, Delta: 5 + d.Intn(20), Collect: d.Intn(2) == 0})
}

// judge of a session: it asks at each time anew, by the calls of the layers below, of all events that came.
type judge struct {
	book    api.Book
	delays  []int
	offsets []int
	now     int
	all     []api.Event
	gone    map[int]int // what is kept no more, by its Number
	most    int         // events that came last are asked, at most
	seen    map[string]int
}

func newJudge(t *testing.T, source string, most int) *judge {
	t.Helper()
	b, _, e := Load(source)
	if e != api.OK {
		t.Fatalf("Load(%q): %v", source, e)
	}
	j := &judge{book: b, gone: map[int]int{}, most: most, seen: map[string]int{}}
	for i := range b.Rules {
		p, _ := plan.Rule(b, i)
		j.delays = append(j.delays, p.Delay)
	}
	j.offsets, _ = plan.Offsets(b)
	return j
}

func (j *judge) kept(kind int) int {
	n := 0
	for _, x := range j.all {
		if j.gone[x.Number] == 0 && (x.Type == kind || kind < 0) {
			n++
		}
	}
	return n
}

func (j *judge) do(o api.Operation) api.Answer {
	if e := Bare(o); e != api.OK {
		return api.Answer{Code: e}
	}
	kind := slices.IndexFunc(j.book.Types, func(t api.Type) bool { return t.Name == o.Type })
	if o.Kind == api.Advance {
		return j.advance(o)
	}
	if kind < 0 {
		return api.Answer{Code: api.ErrNone}
	}
	if o.Kind == api.Query {
		return api.Answer{Number: j.kept(kind)}
	}
	if e := value.Fit(j.book.Types[kind], o.Values); e != api.OK {
		return api.Answer{Code: e}
	}
	if e := tick.Check(o.Span); e != api.OK {
		return api.Answer{Code: e}
	}
	if o.Span.End != j.now {
		return api.Answer{Code: api.ErrLate}
	}
	number := j.take(api.Event{Type: kind, Span: o.Span, Values: o.Values})
	if number == 0 {
		return api.Answer{Code: api.ErrFull}
	}
	return api.Answer{Number: number}
}

func (j *judge) take(x api.Event) int {
	if j.kept(-1) == api.MaxLive {
		j.seen["full"]++
		return 0
	}
	x.Number = len(j.all) + 1
	j.all = append(j.all, x)
	return x.Number
}

func (j *judge) advance(o api.Operation) api.Answer {
	until, e := tick.Add(j.now, o.Delta)
	if e != api.OK {
		return api.Answer{Code: e}
	}
	a := api.Answer{Number: until}
	for j.now < until {
		j.now++
		at := len(a.Firings)
		for rule := range j.book.Rules {
			a.Firings = append(a.Firings, j.fired(rule)...)
		}
		for i := range a.Firings[at:] {
			a.Firings[at+i].Made = j.emit(a.Firings[at+i])
		}
	}
	for _, x := range j.all {
		if offset := j.offsets[x.Type]; o.Collect && j.gone[x.Number] == 0 && offset != api.None && j.now-x.Span.End >= offset {
			j.gone[x.Number]++
			j.seen["collected"]++
		}
	}
	return a
}

// fired: of all tuples of a rule those that are looked at now, and that are fired.
func (j *judge) fired(rule int) []api.Firing {
	var out []api.Firing
	l := j.all[max(len(j.all)-j.most, 0):]
	tuples, _ := join.Tuples(j.book, rule, l)
	for _, tuple := range tuples {
		end := 0
		for _, x := range j.events(tuple) {
			end = max(end, x.Span.End)
		}
		if end+j.delays[rule]+1 != j.now {
			continue
		}
		ok, e := watch.Fires(j.book, rule, j.events(tuple), l)
		if ok && e == api.OK {
			out = append(out, api.Firing{At: j.now, Rule: rule, Events: tuple})
		}
		j.seen[fmt.Sprint("fired ", ok, ", of ", len(tuple), " events")]++
		j.seen[fmt.Sprint("fired ", ok, ", delay ", min(j.delays[rule], 2))]++
	}
	return out
}

func (j *judge) events(tuple []int) []api.Event {
	var out []api.Event
	for _, number := range tuple {
		out = append(out, j.all[number-1])
	}
	return out
}

// emit what comes of a firing.
func (j *judge) emit(f api.Firing) int {
	r := j.book.Rules[f.Rule]
	for kind, t := range j.book.Types {
		if t.Name != r.Emit.Type {
			continue
		}
		x := api.Event{Type: kind, Span: api.Span{Start: j.now, End: j.now}}
		for _, y := range j.events(f.Events) {
			x.Span.Start = min(x.Span.Start, y.Span.Start)
		}
		for _, o := range r.Emit.Values {
			x.Values = append(x.Values, j.operand(r, o, f.Events))
		}
		j.seen["emitted"]++
		return j.take(x)
	}
	return 0
}

func (j *judge) operand(r api.Rule, o api.Operand, tuple []int) api.Value {
	for i, w := range r.Whens {
		if o.Kind == api.Other && w.Var == o.Var {
			x := j.all[tuple[i]-1]
			at, _, _ := value.Field(j.book.Types[x.Type], o.Field)
			return x.Values[at]
		}
	}
	return o.Value
}

// wantJudged: Play answers what the judge does.
func wantJudged(t *testing.T, what, source string, l []api.Operation, j *judge) {
	t.Helper()
	got := play(t, source, l)
	for i, o := range l {
		want := j.do(o)
		if answers(got[i:i+1]) != answers([]api.Answer{want}) {
			t.Fatalf("%s: %s\nof %v,\nthe last one at %d: got %s\nwant %s", what, source, l[:i+1], i, answers(got[i:i+1]), answers([]api.Answer{want}))
		}
	}
}

// wantSeen: that each of these was seen so often.
func wantSeen(t *testing.T, seen map[string]int, least int, what ...string) {
	t.Helper()
	for _, s := range what {
		if seen[s] < least {
			t.Errorf("%s: just %d times: %v", s, seen[s], seen)
		}
	}
}

// TestDrawn: P14.2 to P14.6: drawn operations of drawn books, against the judge, that forgets nothing.
func TestDrawn(t *testing.T) {
	seen := map[string]int{}
	for seed := range 1500 {
		d := draw(seed)
		s := d.source()
		j := newJudge(t, s, api.MaxLive)
		j.seen = seen
		wantJudged(t, fmt.Sprint("seed ", seed), s, d.operations(d.Intn(40)), j)
	}
	wantSeen(t, seen, 200, "collected", "emitted", "fired true, of 1 events", "fired false, of 1 events", "fired true, of 2 events", "fired false, of 2 events", "fired true, of 3 events", "fired false, of 3 events",
		"fired true, delay 0", "fired false, delay 0", "fired true, delay 1", "fired false, delay 1", "fired true, delay 2", "fired false, delay 2")
}

// TestLong: P14.5: sessions that go on and on, with many more events than can be kept at once, against a judge of the events that came last.
func TestLong(t *testing.T) {
	seen := map[string]int{}
	for seed := range 12 {
		d := draw(seed)
		d.brief = true
		s := d.source()
		j := newJudge(t, s, 80)
		j.seen = seen
		if longest := slices.Max(j.offsets); longest > 20 {
			t.Fatalf("%s: %d", s, longest)
		}
		var l []api.Operation
		now := 0
		for range 400 {
			k := d.Intn(4)
			l = append(l, d.event(now), api.Operation{Kind: api.Advance, Delta: k, Collect: true})
			now += k
		}
		wantJudged(t, fmt.Sprint("seed ", seed), s, l, j)
	}
	wantSeen(t, seen, 50, "collected", "emitted", "fired true, of 1 events", "fired false, of 1 events", "fired true, of 2 events", "fired true, of 3 events")
}

// TestCollected: what comes of it: what is kept no more would have made no difference: with Collect, without and here and there the same firings.
func TestCollected(t *testing.T) {
	compared := 0
	for seed := range 1500 {
		d := draw(seed)
		s := d.source()
		l := append(d.operations(d.Intn(60)), query("a"), query("b"), query("c"), query("d"))
		kept := 0
		with := func(collects func() bool) string {
			for i := range l {
				l[i].Collect = l[i].Kind == api.Advance && collects()
			}
			got := play(t, s, l)
			kept = 0
			for _, a := range got[len(got)-4:] {
				kept += a.Number
			}
			return fired(got)
		}
		some := with(func() bool { return d.Intn(2) == 0 })
		all := with(func() bool { return true })
		none := with(func() bool { return false })
		// Where there was no room without Collect, it makes a difference.
		if kept == api.MaxLive {
			continue
		}
		if some != none || all != none {
			t.Fatalf("seed %d: %s\nof %v:\nwithout Collect %s\nhere and there %s\nwith it %s", seed, s, l, none, some, all)
		}
		compared += len(none)
	}
	if compared < 100000 {
		t.Errorf("just %d bytes of firings", compared)
	}
}

// TestSplit: P14.5: in one step or in many the same firings.
func TestSplit(t *testing.T) {
	for seed := range 800 {
		d := draw(seed)
		s := d.source()
		var l []api.Operation
		for _, o := range d.operations(d.Intn(40)) {
			o.Collect = false
			l = append(l, o)
		}
		if one, many := fired(play(t, s, l)), fired(play(t, s, split(l))); one != many {
			t.Fatalf("seed %d: %s\nof %v:\nin one step %s\nin many %s", seed, s, l, one, many)
		}
	}
}

// wreck an operation.
func (d drawer) wreck(o *api.Operation) {
	n := pick(d, -1, 0, 1, 2, 3, 4, math.MinInt, math.MaxInt, api.MaxTime, api.MaxTime+1, api.MaxInt+1)
	switch d.Intn(9) {
	case 0:
		o.Kind = n
	case 1:
		o.Type = pick(d, "", "e", "a", "b", "c", "\xff", "when")
	case 2:
		o.Span.Start = n
	case 3:
		o.Span.End = n
	case 4:
		o.Values = append(slices.Clone(o.Values), pick(d, num(n), text("s"), api.Value{Kind: n}, api.Value{Kind: api.Int, Int: 1, Text: "s"}))
	case 5:
		o.Values = o.Values[:len(o.Values)/2]
	case 6:
		o.Delta = n
	case 7:
		o.Collect = !o.Collect
	case 8:
		if len(o.Values) > 0 {
			o.Values = slices.Clone(o.Values)
			o.Values[d.Intn(len(o.Values))] = pick(d, num(n), text("more than twenty bytes"), api.Value{})
		}
	}
}

// TestWrecked: P14.2: what is wrecked at any place is told what the judge tells; no call panics, and all that come behind go on.
func TestWrecked(t *testing.T) {
	seen := map[string]int{}
	for seed := range 1500 {
		d := draw(seed)
		s := d.source()
		l := d.operations(d.Intn(20))
		for i := range l {
			if d.Intn(2) == 0 {
				d.wreck(&l[i])
			}
			// The judge goes on from time to time, so that a great step would take it long.
			if l[i].Delta > 20 && l[i].Delta <= api.MaxTime {
				l[i].Delta = 5
			}
		}
		j := newJudge(t, s, api.MaxLive)
		wantJudged(t, fmt.Sprint("seed ", seed), s, l, j)
		for _, a := range play(t, s, l) {
			seen[fmt.Sprint(int(a.Code))]++
		}
	}
	for _, e := range []api.Errno{api.OK, api.ErrRange, api.ErrKind, api.ErrForm, api.ErrNone, api.ErrOver, api.ErrOrder, api.ErrLate, api.ErrType, api.ErrSize} {
		wantSeen(t, seen, 20, fmt.Sprint(int(e)))
	}
}

// TestUnchanged: Play changes nothing of what it is given, spare room neither; and it keeps nothing: what was answered once is answered again.
func TestUnchanged(t *testing.T) {
	for seed := range 400 {
		d := draw(seed)
		s := d.source()
		l := d.operations(d.Intn(30))
		if seed%4 == 0 {
			d.wreck(&l[d.Intn(len(l))])
		}
		l, was := roomy(l), roomy(l)
		first := answers(play(t, s, l))
		other := draw(seed + 1)
		play(t, other.source(), other.operations(20))
		if again := answers(play(t, s, l)); again != first {
			t.Fatalf("seed %d: %s, then %s", seed, first, again)
		}
		for i := range l[:cap(l)] {
			a, b := l[:cap(l)][i], was[:cap(l)][i]
			if len(a.Values) != len(b.Values) || !reflect.DeepEqual(a.Values[:cap(a.Values)], b.Values[:cap(b.Values)]) {
				t.Fatalf("seed %d: changed: %v; it was %v", seed, a, b)
			}
			if a.Values, b.Values = nil, nil; !reflect.DeepEqual(a, b) {
				t.Fatalf("seed %d: changed: %v; it was %v", seed, a, b)
			}
		}
	}
}

// roomy: a copy of operations, with spare room behind them and behind their Values.
func roomy(l []api.Operation) []api.Operation {
	out := make([]api.Operation, len(l), len(l)+2)
	for i, o := range l {
		out[i] = o
		if o.Values != nil {
			out[i].Values = append(make([]api.Value, 0, len(o.Values)+2), o.Values...)
		}
	}
	spare := out[len(l):cap(out)]
	for i := range spare {
		spare[i] = query("spare")
	}
	return out
}

// TestNew: no two lists of one answer share anything, spare room neither: what is written into one is in no other.
func TestNew(t *testing.T) {
	lists := 0
	for seed := range 200 {
		d := draw(seed)
		s := d.source()
		l := d.operations(40)
		got := play(t, s, l)
		was := answers(got)
		var all [][]int
		for i := range got {
			for k := range got[i].Firings {
				all = append(all, got[i].Firings[k].Events)
			}
		}
		lists += len(all)
		for _, x := range all {
			for i := range x[len(x):cap(x)] {
				x[len(x):cap(x)][i] = -1
			}
		}
		for _, a := range got {
			spare := a.Firings[len(a.Firings):cap(a.Firings)]
			for i := range spare {
				spare[i] = api.Firing{At: -1}
			}
		}
		if now := answers(got); now != was {
			t.Fatalf("seed %d: %s, then %s", seed, was, now)
		}
		for _, x := range all {
			for i := range x {
				if x[i]--; x[i] < 0 {
					t.Fatalf("seed %d: %v is written twice", seed, x)
				}
				x[i] = -1
			}
		}
		if again := answers(play(t, s, l)); again != was {
			t.Fatalf("seed %d: %s, then %s", seed, was, again)
		}
	}
	if lists < 500 {
		t.Errorf("just %d lists", lists)
	}
}
