package rete

import (
	"fmt"
	"math"
	"math/rand"
	"reflect"
	"slices"
	"strings"
	"testing"

	"dotterel/api"
	"dotterel/check"
	"dotterel/join"
	"dotterel/sift"
	"dotterel/tick"
)

// drawer of books and events, of some of the types: with few of them, more events go together.
type drawer struct {
	*rand.Rand
	kinds []string
}

func draw(seed int) drawer {
	d := drawer{Rand: rand.New(rand.NewSource(int64(seed)))}
	d.kinds = pick(d, []string{"a"}, []string{"d"}, []string{"a", "d"}, []string{"a", "b"}, []string{"a", "b", "c", "d"})
	return d
}

func pick[T any](d drawer, l ...T) T { return l[d.Intn(len(l))] }

// fields of the types that are written out, of numbers and of texts, by the types' names.
func fields(kind string, texts bool) []string {
	numbers := map[string][]string{"a": {"n"}, "b": {"n"}, "d": {"n", "m"}}
	if texts {
		return map[string][]string{"b": {"s"}, "d": {"s", "t"}}[kind]
	}
	return numbers[kind]
}

// side of a comparison, in a when of the last one of these types: of its own event, of one ahead, or a constant.
func (d drawer) side(texts bool, kinds []string) string {
	last := len(kinds) - 1
	var l []string
	for i, kind := range kinds {
		for _, f := range fields(kind, texts) {
			if i < last {
				f = fmt.Sprint("w", i, " . ", f)
			}
			l = append(l, f)
		}
	}
	if len(l) == 0 || d.Intn(5) == 0 {
		return map[bool]string{false: fmt.Sprint(d.Intn(3)), true: pick(d, `""`, `"p"`, `"q"`)}[texts]
	}
	return pick(d, l...)
}

func (d drawer) comparison(kinds []string) string {
	texts := d.Intn(2) == 0
	return d.side(texts, kinds) + pick(d, " = ", " = ", " = ", " /= ", " < ", " <= ", " > ", " >= ") + d.side(texts, kinds)
}

// condition of a when of the last one of these types, with so many more within one another at most.
func (d drawer) condition(deep int, kinds []string) string {
	kind := pick(d, "and", "and", "or", "not", "", "")
	if deep == 0 || kind == "" {
		return d.comparison(kinds)
	}
	if kind == "not" {
		return "not ( " + d.condition(deep-1, kinds) + " )"
	}
	s := "( " + d.condition(deep-1, kinds) + " )"
	for range 1 + d.Intn(2) {
		s += " " + kind + " ( " + d.condition(deep-1, kinds) + " )"
	}
	return s
}

// when of the last one of these types, with some window.
func (d drawer) when(kinds []string) string {
	at := len(kinds) - 1
	s := fmt.Sprint("when w", at, " : ", kinds[at], " ")
	if d.Intn(2) == 0 {
		s += "[ " + d.condition(2, kinds) + " ] "
	}
	return s + pick(d, "", "", fmt.Sprint("over time ", d.Intn(6), " "), fmt.Sprint("over last ", 1+d.Intn(4), " ")) + "; "
}

// option of a link: those that hold often more often.
func (d drawer) option() string {
	s := pick(d, append(words[1:], "before", "after", "before", "after")...)
	if d.Intn(3) == 0 {
		low := d.Intn(4)
		s += fmt.Sprint(" ( ", low, " , ", pick(d, fmt.Sprint(low+d.Intn(4)), "any"), " )")
	}
	return s
}

func (d drawer) link(left, right string) string {
	if d.Intn(2) == 0 {
		left, right = right, left
	}
	s := d.option()
	for range d.Intn(api.MaxLinks) {
		s += " or " + d.option()
	}
	return "where " + left + " " + s + " " + right + " ; "
}

// rule at a place.
func (d drawer) rule(at int) string {
	s := fmt.Sprint("rule r", at, " { ")
	var kinds []string
	for range 1 + d.Intn(api.MaxWhens) {
		kinds = append(kinds, pick(d, d.kinds...))
		s += d.when(kinds)
	}
	n := len(kinds)
	for range d.Intn(4) - 1 {
		if n > 1 {
			l := d.Perm(n)
			s += d.link(fmt.Sprint("w", l[0]), fmt.Sprint("w", l[1]))
		}
	}
	if d.Intn(3) == 0 {
		s += "not u : " + pick(d, "a", "b", "c") + " ; " + d.link("u", fmt.Sprint("w", d.Intn(n)))
	}
	if d.Intn(4) == 0 {
		s += "many 2 p : b within 3 ; "
	}
	return s + "} "
}

func (d drawer) book(t *testing.T) api.Book {
	s := types
	for i := range 1 + d.Intn(2) {
		s += d.rule(i)
	}
	b := read(t, s)
	if e := check.Check(b); e != api.OK {
		t.Fatalf("%s: %v", s, e)
	}
	return b
}

// events, as they came: so many.
func (d drawer) events(n int) []api.Event {
	var l []api.Event
	number, now := 0, 0
	word := func() string { return pick(d, "", "p", "p") }
	for range n {
		number += 1 + d.Intn(3)*d.Intn(3)
		now += d.Intn(3)
		start := max(now-d.Intn(5), 0)
		switch pick(d, d.kinds...) {
		case "a":
			l = append(l, evA(number, start, now, d.Intn(3)))
		case "b":
			l = append(l, evB(number, start, now, word(), d.Intn(3)))
		case "c":
			l = append(l, evC(number, start, now))
		case "d":
			l = append(l, evD(number, start, now, d.Intn(3), word(), d.Intn(3), word()))
		}
	}
	return l
}

// judge of what is made whole, by the clauses of P11.2, asked of any events for themselves.
type judge struct {
	book api.Book
	rule int
	all  []api.Event
}

func (j judge) isTuple(tuple []api.Event) bool {
	return j.isOnce(tuple) && j.isTaken(tuple) && j.isLinked(tuple) && j.isInWindows(tuple)
}

func (j judge) isOnce(tuple []api.Event) bool {
	seen := map[int]int{}
	for _, x := range tuple {
		seen[x.Number]++
	}
	return len(seen) == len(tuple)
}

func (j judge) isTaken(tuple []api.Event) bool {
	for i, x := range tuple {
		// With an error, one ahead is not of its when's type, so that the tuple is none already.
		if ok, e := sift.Takes(j.book, j.rule, 0, i, x, tuple[:i]); e != api.OK || !ok {
			return false
		}
	}
	return true
}

func (j judge) isLinked(tuple []api.Event) bool {
	spans := map[string]api.Span{}
	for i, p := range j.book.Rules[j.rule].Whens {
		spans[p.Var] = tuple[i].Span
	}
	for _, k := range j.book.Rules[j.rule].Links {
		left, isWhen := spans[k.Left]
		right, isToo := spans[k.Right]
		holds := !isWhen || !isToo
		for _, o := range k.Options {
			ok, _ := tick.Fits(o, left, right)
			holds = holds || ok
		}
		if !holds {
			return false
		}
	}
	return true
}

func (j judge) isInWindows(tuple []api.Event) bool {
	last := slices.MaxFunc(tuple, func(x, y api.Event) int { return x.Number - y.Number })
	for i, p := range j.book.Rules[j.rule].Whens {
		behind := 0
		for _, x := range j.all {
			if x.Type == tuple[i].Type && x.Number > tuple[i].Number && x.Number <= last.Number {
				behind++
			}
		}
		if p.Window == api.Time && last.Span.End-tuple[i].Span.End > p.N || p.Window == api.Last && behind >= p.N {
			return false
		}
	}
	return true
}

// fresh: any events, one for each when, that are a tuple, by the one of them that came last; ordered by their Numbers.
func (j judge) fresh() [][][]int {
	lists := [][]api.Event{nil}
	for range j.book.Rules[j.rule].Whens {
		var longer [][]api.Event
		for _, l := range lists {
			for _, x := range j.all {
				longer = append(longer, slices.Concat(l, events(x)))
			}
		}
		lists = longer
	}
	out := make([][][]int, len(j.all))
	for _, l := range lists {
		if !j.isTuple(l) {
			continue
		}
		var numbers []int
		for _, x := range l {
			numbers = append(numbers, x.Number)
		}
		at := slices.IndexFunc(j.all, func(x api.Event) bool { return x.Number == slices.Max(numbers) })
		out[at] = append(out[at], numbers)
	}
	for _, l := range out {
		slices.SortFunc(l, slices.Compare[[]int])
	}
	return out
}

// count what there is to be seen in an answer.
func count(seen map[string]int, r api.Rule, l []api.Event, fresh [][][]int) {
	for i, tuples := range fresh {
		seen[fmt.Sprint("whole ", min(len(tuples), 2))]++
		for _, x := range tuples {
			seen[fmt.Sprint(len(r.Whens), " whens, the last event at ", slices.Index(x, l[i].Number))]++
		}
	}
}

// TestDrawn: what drawn events make whole of all rules of drawn books, against the judge.
func TestDrawn(t *testing.T) {
	seen := map[string]int{}
	for seed := range 1200 {
		d := draw(seed)
		b := d.book(t)
		l := d.events(d.Intn(10))
		for rule, r := range b.Rules {
			want := judge{b, rule, l}.fresh()
			if got, e := Fresh(b, rule, l); e != api.OK || !same(got, want) {
				t.Fatalf("seed %d: %+v of %v: %v, %v; want %v", seed, r, l, got, e, want)
			}
			count(seen, r, l, want)
		}
	}
	for _, s := range []string{
		"whole 0", "whole 1", "whole 2", "1 whens, the last event at 0", "2 whens, the last event at 0", "2 whens, the last event at 1",
		"3 whens, the last event at 0", "3 whens, the last event at 1", "3 whens, the last event at 2",
	} {
		if seen[s] < 100 {
			t.Errorf("%s: just %d times: %v", s, seen[s], seen)
		}
	}
}

// TestLonger: as TestDrawn, with more events, against the tuples that join tells.
func TestLonger(t *testing.T) {
	found := 0
	for seed := range 250 {
		d := draw(seed)
		b := d.book(t)
		l := d.events(24)
		for rule, r := range b.Rules {
			want := judged(t, b, rule, l)
			if got, e := Fresh(b, rule, l); e != api.OK || !same(got, want) {
				t.Fatalf("seed %d: %+v of %v: %v, %v; want %v", seed, r, l, got, e, want)
			}
			found += len(slices.Concat(want...))
		}
	}
	if found < 5000 {
		t.Errorf("just %d tuples", found)
	}
}

// TestOnce: what comes of it: each tuple of all events is made whole once, by the last one of its events.
func TestOnce(t *testing.T) {
	for seed := range 300 {
		d := draw(seed)
		b := d.book(t)
		l := d.events(16)
		for rule := range b.Rules {
			fresh, e := Fresh(b, rule, l)
			if e != api.OK {
				t.Fatal(e)
			}
			var all [][]int
			for i, tuples := range fresh {
				for _, x := range tuples {
					if slices.Max(x) != l[i].Number {
						t.Errorf("%d makes whole %v", l[i].Number, x)
					}
					all = append(all, x)
				}
			}
			slices.SortFunc(all, slices.Compare[[]int])
			want, _ := join.Tuples(b, rule, l)
			if !slices.EqualFunc(all, want, slices.Equal[[]int]) {
				t.Fatalf("seed %d, rule %d: %v; want %v", seed, rule, all, want)
			}
		}
	}
}

// TestLater: what comes later does not change what was made whole.
func TestLater(t *testing.T) {
	for seed := range 300 {
		d := draw(seed)
		b := d.book(t)
		l := d.events(14)
		for rule := range b.Rules {
			all, _ := Fresh(b, rule, l)
			for n := range l {
				if got, e := Fresh(b, rule, l[:n]); e != api.OK || !same(got, all[:n]) {
					t.Fatalf("seed %d, rule %d, the first %d: %v, %v; want %v", seed, rule, n, got, e, all[:n])
				}
			}
		}
	}
}

// TestFull: of as many events as MaxLive, all of one type, each makes whole all threes of itself and of those ahead of it, in each order.
func TestFull(t *testing.T) {
	b := one(t, "when x : a ; when y : a ; when z : a ;")
	got, e := Fresh(b, 0, came(strings.Repeat("a", api.MaxLive)))
	if e != api.OK || len(got) != api.MaxLive {
		t.Fatalf("%d, %v", len(got), e)
	}
	for i, tuples := range got {
		if len(tuples) != 3*i*(i-1) {
			t.Errorf("%d: %d tuples", i+1, len(tuples))
		}
		if !slices.IsSortedFunc(tuples, slices.Compare[[]int]) {
			t.Errorf("%d: not in order", i+1)
		}
		for _, x := range tuples {
			if len(x) != 3 || x[0] == x[1] || x[0] == x[2] || x[1] == x[2] || min(x[0], x[1], x[2]) < 1 || max(x[0], x[1], x[2]) != i+1 {
				t.Fatalf("%d: %v", i+1, x)
			}
		}
		if len(slices.CompactFunc(tuples, slices.Equal[[]int])) != 3*i*(i-1) {
			t.Errorf("%d: one is told twice", i+1)
		}
	}
}

// TestFullWindows: windows of as many as MaxLive, of events as many as that.
func TestFullWindows(t *testing.T) {
	l := came(strings.Repeat("a", api.MaxLive))
	for n, last := range map[int]int{api.MaxLive: 2 * (api.MaxLive - 1), api.MaxLive - 1: 2*(api.MaxLive-1) - 1} {
		// Each End is one behind that of the one ahead, so that n - 1 of them last as long.
		for _, window := range []string{fmt.Sprint("over last ", n), fmt.Sprint("over time ", n-1)} {
			got, e := Fresh(one(t, "when x : a "+window+" ; when y : a ;"), 0, l)
			if e != api.OK || len(got) != len(l) || len(got[len(l)-1]) != last || len(got[len(l)-2]) != 2*(api.MaxLive-2) {
				t.Errorf("%s: %d, %v", window, len(got), e)
			}
		}
	}
}

// leaves of a value: its numbers, texts and lists, at any depth.
func leaves(v reflect.Value) []reflect.Value {
	switch v.Kind() {
	case reflect.Struct:
		var l []reflect.Value
		for i := range v.NumField() {
			l = append(l, leaves(v.Field(i))...)
		}
		return l
	case reflect.Slice:
		l := []reflect.Value{v}
		for i := range v.Len() {
			l = append(l, leaves(v.Index(i))...)
		}
		return l
	}
	return []reflect.Value{v}
}

// wreck one leaf of what is given.
func (d drawer) wreck(given any) {
	l := leaves(reflect.ValueOf(given).Elem())
	v := l[d.Intn(len(l))]
	switch v.Kind() {
	case reflect.Int:
		v.SetInt(pick(d, v.Int()-1, v.Int()+1, -1, 0, 1, 2, 3, 4, 7, 8, 1<<30+1, 1<<51, math.MaxInt, math.MinInt))
	case reflect.String:
		v.SetString(pick(d, "", "a", "w0", "n", "s", "when", "A", "0", "\xff", "abcdefghijklmnopqrstuvwxyz"))
	case reflect.Slice:
		if d.Intn(2) == 0 {
			v.Set(v.Slice(0, v.Len()/2))
		} else {
			v.Set(reflect.AppendSlice(v, v))
		}
	}
}

// TestWrecked: books and events that are wrecked at any place are refused as the chapter says; no call panics, and none tells tuples with an error.
func TestWrecked(t *testing.T) {
	seen := map[api.Errno]int{}
	for seed := range 4000 {
		d := draw(seed)
		b := d.book(t)
		l := d.events(1 + d.Intn(6))
		if d.Intn(2) == 0 {
			d.wreck(&b)
		}
		for range d.Intn(3) {
			d.wreck(&l)
		}
		rule := d.Intn(4) - 1
		want := join.CheckEvents(b, l)
		if want == api.OK && (rule < 0 || rule >= len(b.Rules)) {
			want = api.ErrRange
		}
		got, e := Fresh(b, rule, l)
		if e != want || e != api.OK && len(got) > 0 {
			t.Fatalf("%+v, %v: %v, %v; want %v", b, l, got, e, want)
		}
		if e == api.OK && !same(got, judge{b, rule, l}.fresh()) {
			t.Fatalf("wrecked, but fine: %+v, %v: %v", b, l, got)
		}
		seen[e]++
	}
	for _, e := range []api.Errno{api.OK, api.ErrSize, api.ErrRange, api.ErrKind, api.ErrForm, api.ErrNone, api.ErrState, api.ErrOrder, api.ErrType} {
		if seen[e] < 10 {
			t.Errorf("%v: just %d times: %v", e, seen[e], seen)
		}
	}
}

// given to one call, all of it.
type given struct {
	Book   api.Book
	Events []api.Event
}

// TestUnchanged: Fresh changes nothing that it is given, spare room neither; and it keeps nothing: what was answered once is answered again.
func TestUnchanged(t *testing.T) {
	for seed := range 150 {
		d := draw(seed)
		b := d.book(t)
		l := d.events(d.Intn(9))
		if seed%5 == 0 {
			d.wreck(&b)
		}
		if seed%7 == 0 {
			d.wreck(&l)
		}
		g, was := roomy(given{b, l}), roomy(given{b, l})
		first, firstE := Fresh(g.Book, 0, g.Events)
		other := draw(seed + 1)
		Fresh(other.book(t), 0, other.events(6))
		again, againE := Fresh(g.Book, 0, g.Events)
		if !same(first, again) || firstE != againE {
			t.Fatalf("%+v: %v, %v, then %v, %v", g, first, firstE, again, againE)
		}
		if !sameRoom(reflect.ValueOf(g), reflect.ValueOf(was)) {
			t.Fatalf("changed: %+v; it was %+v", g, was)
		}
	}
}

// TestNewMemory: what Fresh tells is new memory, spare room too: no two lists share any, nor do two answers.
func TestNewMemory(t *testing.T) {
	b := one(t, "when x : a ; when y : a ;")
	l := came("aaaa")
	first, _ := Fresh(b, 0, l)
	second, _ := Fresh(b, 0, l)
	asIs := told(l, second)
	var lists [][]int
	for _, tuples := range first {
		lists = append(lists, tuples...)
	}
	for i, x := range lists {
		for k := range x[:cap(x)] {
			x[:cap(x)][k] = -1 - i
		}
	}
	for i, x := range lists {
		if len(x) != 2 || x[0] != -1-i || x[1] != -1-i {
			t.Errorf("%d: %v: another one was written to", i, x)
		}
	}
	// The lists of tuples, each by its length.
	for i, tuples := range first {
		for k := range tuples[:cap(tuples)] {
			tuples[:cap(tuples)][k] = make([]int, i)
		}
	}
	for i, tuples := range first {
		for _, x := range tuples {
			if len(x) != i {
				t.Errorf("of %d: %v: another list was written to", i, x)
			}
		}
	}
	if told(l, second) != asIs {
		t.Error("another answer was changed")
	}
	wantOne(t, "what was given", b, l, asIs)
}

// roomy: a copy of what is given, with spare room behind each list that is not empty itself.
func roomy(g given) given { return copied(reflect.ValueOf(g), 2).Interface().(given) }

// copied: a copy of all of a value, with so much spare room in its lists, filled with their first elements.
func copied(v reflect.Value, room int) reflect.Value {
	out := reflect.New(v.Type()).Elem()
	out.Set(v)
	switch v.Kind() {
	case reflect.Struct:
		for i := range v.NumField() {
			out.Field(i).Set(copied(v.Field(i), room))
		}
	case reflect.Slice:
		n := v.Len()
		if n == 0 {
			return reflect.Zero(v.Type())
		}
		out = reflect.MakeSlice(v.Type(), n+room, n+room)
		for i := range n + room {
			out.Index(i).Set(copied(v.Index(i%n), room))
		}
		return out.Slice(0, n)
	}
	return out
}

// sameRoom: are two values the same, in the spare room of their lists too?
func sameRoom(a, b reflect.Value) bool {
	switch a.Kind() {
	case reflect.Struct:
		for i := range a.NumField() {
			if !sameRoom(a.Field(i), b.Field(i)) {
				return false
			}
		}
		return true
	case reflect.Slice:
		if a.Len() != b.Len() || a.Cap() != b.Cap() {
			return false
		}
		for i := range a.Cap() {
			if !sameRoom(a.Slice(0, a.Cap()).Index(i), b.Slice(0, b.Cap()).Index(i)) {
				return false
			}
		}
		return true
	}
	return a.Interface() == b.Interface()
}
