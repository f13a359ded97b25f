package watch

import (
	"fmt"
	"math"
	"math/rand"
	"reflect"
	"slices"
	"testing"

	"dotterel/api"
	"dotterel/check"
	"dotterel/join"
	"dotterel/sift"
	"dotterel/tick"
	"dotterel/value"
)

// drawer of books, events and tuples.
type drawer struct{ *rand.Rand }

func draw(seed int) drawer { return drawer{rand.New(rand.NewSource(int64(seed)))} }

func pick[T any](d drawer, l ...T) T { return l[d.Intn(len(l))] }

// where: some condition of a pattern of a type, that may name so many whens (w0, w1, ..), or none.
func (d drawer) where(kind string, whens int) string {
	if kind == "c" || d.Intn(2) == 0 {
		return ""
	}
	side := fmt.Sprint(d.Intn(3))
	if whens > 0 && d.Intn(3) > 0 {
		side = fmt.Sprint("w", d.Intn(whens), " . n")
	}
	s := "n " + pick(d, "=", "/=", "<", "<=", ">", ">=") + " " + side
	return "[ " + pick(d, s, s, "not "+s, s+" or n = 0", s+" and n < 2") + " ] "
}

// option of a link: those that hold often more often.
func (d drawer) option() string {
	s := pick(d, append(words[1:], "before", "after", "before", "after", "before", "after")...)
	if d.Intn(3) == 0 {
		low := d.Intn(4)
		s += fmt.Sprint(" ( ", low, " , ", pick(d, fmt.Sprint(low+d.Intn(4)), "any"), " )")
	}
	return s
}

func (d drawer) link(left, right string) string {
	if d.Intn(2) == 0 {
		left, right = right, left
	}
	s := d.option()
	for range d.Intn(4) {
		s += " or " + d.option()
	}
	return "where " + left + " " + s + " " + right + " ; "
}

func (d drawer) many(at, whens int) string {
	kind := pick(d, "a", "a", "b", "c")
	what := fmt.Sprint("many ", 1+d.Intn(3))
	if kind != "c" && d.Intn(2) == 0 {
		what = fmt.Sprint("many ", d.Intn(4), " of n")
	}
	return fmt.Sprint(what, " p", at, " : ", kind, " ", d.where(kind, whens), "within ", d.Intn(9), " ; ")
}

// rule at a place. Only its last when is of the type c, which has no fields that a condition could name.
func (d drawer) rule(at int) string {
	s := fmt.Sprint("rule r", at, " { ")
	n := 1 + d.Intn(api.MaxWhens)
	named := n
	for i := range n {
		kind := pick(d, "a", "a", "b")
		if i == n-1 && d.Intn(4) == 0 {
			kind, named = "c", n-1
		}
		window := pick(d, "", "", fmt.Sprint("over time ", d.Intn(6), " "), fmt.Sprint("over last ", 1+d.Intn(4), " "))
		s += fmt.Sprint("when w", i, " : ", kind, " ", d.where(kind, i), window, "; ")
	}
	if n > 1 && d.Intn(2) == 0 {
		l := d.Perm(n)
		s += d.link(fmt.Sprint("w", l[0]), fmt.Sprint("w", l[1]))
	}
	for i := range d.Intn(api.MaxNots + 1) {
		kind := pick(d, "a", "b", "c")
		s += fmt.Sprint("not u", i, " : ", kind, " ", d.where(kind, named), "; ")
		for range pick(d, 0, 1, 1, 2) {
			s += d.link(fmt.Sprint("u", i), fmt.Sprint("w", d.Intn(n)))
		}
	}
	for i := range d.Intn(api.MaxManies + 1) {
		s += d.many(i, named)
	}
	return s + "} "
}

func (d drawer) book(t *testing.T) api.Book {
	s := types
	for i := range 1 + d.Intn(2) {
		s += d.rule(i)
	}
	b := read(t, s)
	if e := check.Check(b); e != api.OK {
		t.Fatalf("%s: %v", s, e)
	}
	return b
}

// events, as they came: so many.
func (d drawer) events(n int) []api.Event {
	var l []api.Event
	number, now := 0, 0
	for range n {
		number += 1 + d.Intn(3)*d.Intn(3)
		now += d.Intn(3)
		start := max(now-d.Intn(5), 0)
		a, b, c := evA(number, start, now, d.Intn(5)-1), evB(number, start, now, "s", d.Intn(5)-1), evC(number, start, now)
		l = append(l, pick(d, a, a, b, c))
	}
	return l
}

// tuple: events of the whens' types, that are among all events or not; what else P11.2 asks is left to chance.
func (d drawer) tuple(b api.Book, rule int, l []api.Event) []api.Event {
	var out []api.Event
	for _, w := range b.Rules[rule].Whens {
		var fit []api.Event
		for _, x := range append(d.events(3), l...) {
			if b.Types[x.Type].Name == w.Type {
				fit = append(fit, x)
			}
		}
		if len(fit) == 0 {
			return nil
		}
		out = append(out, pick(d, fit...))
	}
	return out
}

// judge of tuples: what the chapter asks, clause by clause, by the calls of the layers below.
type judge struct {
	book  api.Book
	rule  int
	tuple []api.Event
	all   []api.Event
	fails map[string]int // how often a clause was the only one that kept an event from blocking, or from being counted
}

// only: the one clause that does not hold, where just one does not.
func (j judge) only(what string, clauses map[string]bool) bool {
	var failed []string
	for clause, holds := range clauses {
		if !holds {
			failed = append(failed, clause)
		}
	}
	if len(failed) == 1 {
		j.fails[what+" "+failed[0]]++
	}
	return len(failed) == 0
}

// takes, by sift: part 1 has the nots, part 2 the manies.
func (j judge) takes(part, at int, x api.Event) bool {
	ok, e := sift.Takes(j.book, j.rule, part, at, x, j.tuple)
	return ok && e == api.OK
}

func (j judge) isLinked(not string, x api.Event) bool {
	r := j.book.Rules[j.rule]
	for i, w := range r.Whens {
		for _, k := range r.Links {
			left, right := x.Span, j.tuple[i].Span
			switch {
			case k.Left == not && k.Right == w.Var:
			case k.Left == w.Var && k.Right == not:
				left, right = right, left
			default:
				continue
			}
			holds := 0
			for _, o := range k.Options {
				if ok, _ := tick.Fits(o, left, right); ok {
					holds++
				}
			}
			if holds == 0 {
				return false
			}
		}
	}
	return true
}

func (j judge) isOther(x api.Event) bool { return !slices.Contains(numbers(j.tuple), x.Number) }

func (j judge) latest() int {
	var ends []int
	for _, x := range j.tuple {
		ends = append(ends, x.Span.End)
	}
	return slices.Max(ends)
}

func (j judge) blocked() bool {
	found := false
	for at, p := range j.book.Rules[j.rule].Nots {
		for _, x := range j.all {
			if j.only("not", map[string]bool{"own": j.isOther(x), "taken": j.takes(1, at, x), "linked": j.isLinked(p.Var, x)}) {
				found = true
			}
		}
	}
	return found
}

func (j judge) enough() bool {
	for at, m := range j.book.Rules[j.rule].Manies {
		sum := 0
		for _, x := range j.all {
			if j.only("many", map[string]bool{
				"taken": j.takes(2, at, x),
				"late":  x.Span.End <= j.latest(),
				"early": x.Span.End+m.Pattern.N >= j.latest(),
			}) {
				switch {
				case m.Field == "":
					sum++
				case x.Type == 0:
					sum += x.Values[0].Int
				default:
					sum += x.Values[1].Int
				}
			}
		}
		if sum < m.Count {
			return false
		}
	}
	return true
}

// wantJudged: Fires answers what the judge does.
func wantJudged(t *testing.T, what string, j judge) (blocked, enough bool) {
	t.Helper()
	blocked, enough = j.blocked(), j.enough()
	want(t, what, j.book, j.rule, j.tuple, j.all, !blocked && enough, api.OK)
	return blocked, enough
}

// TestDrawn: P12.1, P12.2: all tuples of all rules of drawn books, of drawn events, and events that need be no tuple, against the judge.
func TestDrawn(t *testing.T) {
	seen, fails := map[string]int{}, map[string]int{}
	for seed := range 700 {
		d := draw(seed)
		b := d.book(t)
		l := d.events(d.Intn(11))
		for rule, r := range b.Rules {
			found, _ := join.Tuples(b, rule, l)
			var tuples [][]api.Event
			for _, n := range found {
				tuples = append(tuples, of(l, n...))
			}
			d.Shuffle(len(tuples), func(i, k int) { tuples[i], tuples[k] = tuples[k], tuples[i] })
			tuples = tuples[:min(len(tuples), 8)]
			for range 4 {
				if tuple := d.tuple(b, rule, l); tuple != nil {
					tuples = append(tuples, tuple)
				}
			}
			for _, tuple := range tuples {
				blocked, enough := wantJudged(t, fmt.Sprintf("seed %d, %+v", seed, r), judge{b, rule, tuple, l, fails})
				if len(r.Nots) > 0 {
					seen[fmt.Sprint(len(r.Nots), " nots, blocked ", blocked)]++
				}
				if len(r.Manies) > 0 {
					seen[fmt.Sprint(len(r.Manies), " manies, enough ", enough)]++
				}
			}
		}
		if t.Failed() {
			return
		}
	}
	for _, s := range []string{"1 nots, blocked true", "1 nots, blocked false", "2 nots, blocked true", "2 nots, blocked false", "1 manies, enough true", "1 manies, enough false", "2 manies, enough true", "2 manies, enough false"} {
		if seen[s] < 200 {
			t.Errorf("%s: just %d times: %v", s, seen[s], seen)
		}
	}
	for _, s := range []string{"not own", "not taken", "not linked", "many taken", "many late", "many early"} {
		if fails[s] < 300 {
			t.Errorf("%s alone did not hold: just %d times: %v", s, fails[s], fails)
		}
	}
}

// TestFull: P12.1, P12.2: of as many events as MaxLive, the last one, the first one and one between block.
func TestFull(t *testing.T) {
	var l []api.Event
	for i := range api.MaxLive {
		l = append(l, evA(i+1, i, i, i))
	}
	for _, n := range []int{0, 1, 57, api.MaxLive - 1, api.MaxLive} {
		b := one(t, fmt.Sprintf("when x : a ; not u : a [ n = %d ] ; many 1 p : a within 9 ;", n))
		for i, x := range l {
			wantOne(t, fmt.Sprint(n, " at ", i), b, events(x), l, n == i || n == api.MaxLive)
		}
	}
}

// refused: what the chapter asks, in its order, of anything at all.
func refused(b api.Book, rule int, tuple, l []api.Event) api.Errno {
	if e := join.CheckEvents(b, l); e != api.OK {
		return e
	}
	if rule < 0 || rule >= len(b.Rules) {
		return api.ErrRange
	}
	for _, x := range tuple {
		if e := value.CheckEvent(b.Types, x); e != api.OK {
			return e
		}
	}
	whens := b.Rules[rule].Whens
	if len(tuple) != len(whens) {
		return api.ErrForm
	}
	for i, x := range tuple {
		if b.Types[x.Type].Name != whens[i].Type {
			return api.ErrType
		}
	}
	return api.OK
}

// leaves of a value: its numbers, texts and lists, at any depth.
func leaves(v reflect.Value) []reflect.Value {
	switch v.Kind() {
	case reflect.Struct:
		var l []reflect.Value
		for i := range v.NumField() {
			l = append(l, leaves(v.Field(i))...)
		}
		return l
	case reflect.Slice:
		l := []reflect.Value{v}
		for i := range v.Len() {
			l = append(l, leaves(v.Index(i))...)
		}
		return l
	}
	return []reflect.Value{v}
}

// wreck one leaf of what is given.
func (d drawer) wreck(given any) {
	l := leaves(reflect.ValueOf(given).Elem())
	v := l[d.Intn(len(l))]
	switch v.Kind() {
	case reflect.Int:
		v.SetInt(pick(d, v.Int()-1, v.Int()+1, -1, 0, 1, 2, 3, 4, 7, 8, 1<<30+1, 1<<51, math.MaxInt, math.MinInt))
	case reflect.String:
		v.SetString(pick(d, "", "a", "w0", "u0", "n", "s", "when", "A", "0", "\xff", "abcdefghijklmnopqrstuvwxyz"))
	case reflect.Slice:
		if d.Intn(2) == 0 {
			v.Set(v.Slice(0, v.Len()/2))
		} else {
			v.Set(reflect.AppendSlice(v, v))
		}
	}
}

// given to one call, all of it.
type given struct {
	Book   api.Book
	Rule   int
	Tuple  []api.Event
	Events []api.Event
}

// given, drawn: of a rule that there is, and of its whens' types.
func (d drawer) given(t *testing.T) given {
	b := d.book(t)
	l := d.events(1 + d.Intn(8))
	rule := d.Intn(len(b.Rules))
	return given{b, rule, d.tuple(b, rule, l), l}
}

// TestWrecked: P12.1: what is wrecked at any place is refused as the chapter says; no call panics, and none tells true with an error.
func TestWrecked(t *testing.T) {
	seen := map[api.Errno]int{}
	for seed := range 6000 {
		d := draw(seed)
		g := roomy(d.given(t), 0) // so that no two of its lists share anything
		for range d.Intn(3) {
			switch d.Intn(5) {
			case 0:
				d.wreck(&g.Book)
			case 1:
				d.wreck(&g.Events)
			case 2, 3:
				d.wreck(&g.Tuple)
			case 4:
				d.wreck(&g.Rule)
			}
		}
		wantE := refused(g.Book, g.Rule, g.Tuple, g.Events)
		seen[wantE]++
		if wantE == api.OK {
			wantJudged(t, "wrecked, but fine", judge{g.Book, g.Rule, g.Tuple, g.Events, map[string]int{}})
		} else {
			want(t, fmt.Sprintf("wrecked: %+v", g.Book), g.Book, g.Rule, g.Tuple, g.Events, false, wantE)
		}
		if t.Failed() {
			return
		}
	}
	for _, e := range []api.Errno{api.OK, api.ErrSize, api.ErrRange, api.ErrKind, api.ErrForm, api.ErrNone, api.ErrState, api.ErrOrder, api.ErrType} {
		if seen[e] < 20 {
			t.Errorf("%v: just %d times: %v", e, seen[e], seen)
		}
	}
}

// TestUnchanged: Fires changes nothing that it is given, spare room neither; and it keeps nothing: what was answered once is answered again.
func TestUnchanged(t *testing.T) {
	seen := map[string]int{}
	for seed := range 1000 {
		d := draw(seed)
		g := d.given(t)
		if seed%6 == 0 {
			d.wreck(&g)
		}
		g, was := roomy(g, 2), roomy(g, 2)
		ok, e := Fires(g.Book, g.Rule, g.Tuple, g.Events)
		seen[fmt.Sprint(ok, e == api.OK)]++
		other := draw(seed + 1).given(t)
		Fires(other.Book, other.Rule, other.Tuple, other.Events)
		if again, againE := Fires(g.Book, g.Rule, g.Tuple, g.Events); again != ok || againE != e {
			t.Fatalf("%+v: %v, %v, then %v, %v", g, ok, e, again, againE)
		}
		if !sameRoom(reflect.ValueOf(g), reflect.ValueOf(was)) {
			t.Fatalf("changed: %+v; it was %+v", g, was)
		}
	}
	for _, s := range []string{"true true", "false true", "false false"} {
		if seen[s] < 30 {
			t.Errorf("%s: just %d times: %v", s, seen[s], seen)
		}
	}
}

// roomy: a copy of what is given, with so much spare room behind each list that is not empty itself.
func roomy(g given, room int) given { return copied(reflect.ValueOf(g), room).Interface().(given) }

// copied: a copy of all of a value, with so much spare room in its lists, filled with their first elements.
func copied(v reflect.Value, room int) reflect.Value {
	out := reflect.New(v.Type()).Elem()
	out.Set(v)
	switch v.Kind() {
	case reflect.Struct:
		for i := range v.NumField() {
			out.Field(i).Set(copied(v.Field(i), room))
		}
	case reflect.Slice:
		n := v.Len()
		if n == 0 {
			return reflect.Zero(v.Type())
		}
		out = reflect.MakeSlice(v.Type(), n+room, n+room)
		for i := range n + room {
			out.Index(i).Set(copied(v.Index(i%n), room))
		}
		return out.Slice(0, n)
	}
	return out
}

// sameRoom: are two values the same, in the spare room of their lists too?
func sameRoom(a, b reflect.Value) bool {
	switch a.Kind() {
	case reflect.Struct:
		for i := range a.NumField() {
			if !sameRoom(a.Field(i), b.Field(i)) {
				return false
			}
		}
		return true
	case reflect.Slice:
		if a.Len() != b.Len() || a.Cap() != b.Cap() {
			return false
		}
		for i := range a.Cap() {
			if !sameRoom(a.Slice(0, a.Cap()).Index(i), b.Slice(0, b.Cap()).Index(i)) {
				return false
			}
		}
		return true
	}
	return a.Interface() == b.Interface()
}
