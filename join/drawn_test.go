package join

import (
	"fmt"
	"math"
	"math/rand"
	"reflect"
	"slices"
	"strings"
	"testing"

	"dotterel/api"
	"dotterel/check"
	"dotterel/sift"
	"dotterel/tick"
	"dotterel/value"
)

// drawer of books and events.
type drawer struct{ *rand.Rand }

func draw(seed int) drawer { return drawer{rand.New(rand.NewSource(int64(seed)))} }

func pick[T any](d drawer, l ...T) T { return l[d.Intn(len(l))] }

// when: the text of a pattern of one of some types, that may name those ahead of it, with some window.
func (d drawer) when(at int, kinds ...string) string {
	kind := pick(d, kinds...)
	where := ""
	if kind != "c" && d.Intn(2) == 0 {
		side := fmt.Sprint(d.Intn(3))
		if at > 0 && d.Intn(3) > 0 {
			side = fmt.Sprint("w", d.Intn(at), " . n")
		}
		where = "[ n " + pick(d, "=", "/=", "<", "<=", ">", ">=") + " " + side + " ] "
	}
	window := pick(d, "", fmt.Sprint("over time ", d.Intn(6), " "), fmt.Sprint("over last ", 1+d.Intn(4), " "))
	return fmt.Sprint("when w", at, " : ", kind, " ", where, window, "; ")
}

// option of a link: those that hold often more often.
func (d drawer) option() string {
	s := pick(d, append(words[1:], "before", "after", "before", "after")...)
	if d.Intn(3) == 0 {
		low := d.Intn(4)
		s += fmt.Sprint(" ( ", low, " , ", pick(d, fmt.Sprint(low+d.Intn(4)), "any"), " )")
	}
	return s
}

func (d drawer) link(left, right string) string {
	if d.Intn(2) == 0 {
		left, right = right, left
	}
	s := d.option()
	for range d.Intn(api.MaxLinks) {
		s += " or " + d.option()
	}
	return "where " + left + " " + s + " " + right + " ; "
}

// rule at a place. Only its last when is of the type c, which has no fields that another one could name.
func (d drawer) rule(at int) string {
	s := fmt.Sprint("rule r", at, " { ")
	n := 1 + d.Intn(api.MaxWhens)
	for i := range n - 1 {
		s += d.when(i, "a", "a", "b")
	}
	s += d.when(n-1, "a", "a", "b", "c")
	for range d.Intn(3) {
		if n > 1 {
			l := d.Perm(n)
			s += d.link(fmt.Sprint("w", l[0]), fmt.Sprint("w", l[1]))
		}
	}
	if d.Intn(3) == 0 {
		s += "not u : " + pick(d, "a", "b", "c") + " ; " + d.link("u", fmt.Sprint("w", d.Intn(n)))
	}
	if d.Intn(4) == 0 {
		s += "many 2 p : b within 3 ; "
	}
	return s + "} "
}

func (d drawer) book(t *testing.T) api.Book {
	s := types
	for i := range 1 + d.Intn(2) {
		s += d.rule(i)
	}
	b := read(t, s)
	if e := check.Check(b); e != api.OK {
		t.Fatalf("%s: %v", s, e)
	}
	return b
}

// events, as they came: so many.
func (d drawer) events(n int) []api.Event {
	var l []api.Event
	number, now := 0, 0
	for range n {
		number += 1 + d.Intn(3)*d.Intn(3)
		now += d.Intn(3)
		start := max(now-d.Intn(5), 0)
		a, b, c := evA(number, start, now, d.Intn(3)), evB(number, start, now, "s", d.Intn(3)), evC(number, start, now)
		l = append(l, pick(d, a, a, b, c))
	}
	return l
}

// judge of tuples: what the chapter asks of each of its clauses, one by one, of any events of all that there were.
type judge struct {
	book  api.Book
	rule  int
	all   []api.Event
	fails map[string]int // how often a clause was the only one that did not hold
}

func (j judge) isTuple(tuple []api.Event) bool {
	var failed []string
	for clause, holds := range map[string]func([]api.Event) bool{"once": j.isOnce, "taken": j.isTaken, "linked": j.isLinked, "time": j.isInTime, "last": j.isOfLast} {
		if !holds(tuple) {
			failed = append(failed, clause)
		}
	}
	if len(failed) == 1 {
		j.fails[failed[0]]++
	}
	return len(failed) == 0
}

func (j judge) isOnce(tuple []api.Event) bool {
	seen := map[int]int{}
	for _, x := range tuple {
		seen[x.Number]++
	}
	return len(seen) == len(tuple)
}

func (j judge) isTaken(tuple []api.Event) bool {
	for i, x := range tuple {
		// With an error, one ahead is not of its when's type, so that the tuple is none already.
		if ok, e := sift.Takes(j.book, j.rule, 0, i, x, tuple[:i]); e != api.OK || !ok {
			return false
		}
	}
	return true
}

func (j judge) isLinked(tuple []api.Event) bool {
	spans := map[string]api.Span{}
	for i, p := range j.book.Rules[j.rule].Whens {
		spans[p.Var] = tuple[i].Span
	}
	for _, k := range j.book.Rules[j.rule].Links {
		left, isWhen := spans[k.Left]
		right, isToo := spans[k.Right]
		holds := !isWhen || !isToo
		for _, o := range k.Options {
			ok, _ := tick.Fits(o, left, right)
			holds = holds || ok
		}
		if !holds {
			return false
		}
	}
	return true
}

func (j judge) isInTime(tuple []api.Event) bool {
	for i, p := range j.book.Rules[j.rule].Whens {
		for _, x := range tuple {
			if p.Window == api.Time && x.Span.End-tuple[i].Span.End > p.N {
				return false
			}
		}
	}
	return true
}

func (j judge) isOfLast(tuple []api.Event) bool {
	last := 0
	for _, x := range tuple {
		last = max(last, x.Number)
	}
	for i, p := range j.book.Rules[j.rule].Whens {
		behind := 0
		for _, x := range j.all {
			if x.Type == tuple[i].Type && x.Number > tuple[i].Number && x.Number <= last {
				behind++
			}
		}
		if p.Window == api.Last && behind >= p.N {
			return false
		}
	}
	return true
}

// tuples: any events, one for each when, of which all clauses hold; ordered by their Numbers.
func (j judge) tuples() [][]int {
	lists := [][]api.Event{nil}
	for range j.book.Rules[j.rule].Whens {
		var longer [][]api.Event
		for _, l := range lists {
			for _, x := range j.all {
				longer = append(longer, slices.Concat(l, events(x)))
			}
		}
		lists = longer
	}
	var out [][]int
	for _, l := range lists {
		if j.isTuple(l) {
			var numbers []int
			for _, x := range l {
				numbers = append(numbers, x.Number)
			}
			out = append(out, numbers)
		}
	}
	slices.SortFunc(out, slices.Compare[[]int])
	return out
}

// TestDrawn: P11.2, P11.3: the tuples of all rules of drawn books, of drawn events, against the judge.
func TestDrawn(t *testing.T) {
	seen, fails := map[string]int{}, map[string]int{}
	for seed := range 900 {
		d := draw(seed)
		b := d.book(t)
		l := d.events(d.Intn(11))
		for rule, r := range b.Rules {
			j := judge{book: b, rule: rule, all: l, fails: fails}
			tuples := j.tuples()
			want(t, fmt.Sprintf("seed %d, %+v", seed, r), b, rule, l, tuples, api.OK)
			seen[fmt.Sprint(len(r.Whens), " whens, some ", len(tuples) > 0)]++
			seen[fmt.Sprint("several ", len(tuples) > 3)]++
		}
		if t.Failed() {
			return
		}
	}
	for _, s := range []string{"1 whens, some true", "2 whens, some true", "3 whens, some true", "1 whens, some false", "2 whens, some false", "3 whens, some false", "several true", "several false"} {
		if seen[s] < 50 {
			t.Errorf("%s: just %d times: %v", s, seen[s], seen)
		}
	}
	for _, s := range []string{"once", "taken", "linked", "time", "last"} {
		if fails[s] < 100 {
			t.Errorf("%s alone did not hold: just %d times: %v", s, fails[s], fails)
		}
	}
}

// TestBegun: P11.2: events that come later change nothing of a tuple: the tuples of fewer events are just those of all that have none of the later ones.
func TestBegun(t *testing.T) {
	found := 0
	for seed := range 300 {
		d := draw(seed)
		b := d.book(t)
		l := d.events(14)
		for rule := range b.Rules {
			all, _ := Tuples(b, rule, l)
			for n := range l {
				var tuples [][]int
				for _, x := range all {
					if slices.Max(x) < l[n].Number {
						tuples = append(tuples, x)
					}
				}
				want(t, "fewer", b, rule, l[:n], tuples, api.OK)
				found += len(tuples)
			}
		}
	}
	if found < 1000 {
		t.Errorf("just %d tuples", found)
	}
}

// TestFull: P11.3: of as many events as MaxLive, all of one type, each three of them in each order, by their Numbers.
func TestFull(t *testing.T) {
	b := one(t, "when x : a ; when y : a ; when z : a ;")
	l := came(strings.Repeat("a", api.MaxLive))
	got, e := Tuples(b, 0, l)
	if e != api.OK || len(got) != api.MaxLive*(api.MaxLive-1)*(api.MaxLive-2) {
		t.Fatalf("%d tuples, %v", len(got), e)
	}
	if !slices.IsSortedFunc(got, slices.Compare[[]int]) {
		t.Error("not in order")
	}
	for _, x := range got {
		if len(x) != 3 || x[0] == x[1] || x[0] == x[2] || x[1] == x[2] || min(x[0], x[1], x[2]) < 1 || max(x[0], x[1], x[2]) > api.MaxLive {
			t.Fatalf("%v is none", x)
		}
	}
	if len(slices.CompactFunc(got, slices.Equal[[]int])) != len(got) {
		t.Error("one is told twice")
	}
}

// TestFullWindows: P11.2: windows of as many as MaxLive, of events as many as that.
func TestFullWindows(t *testing.T) {
	l := came(strings.Repeat("a", api.MaxLive))
	for n, pairs := range map[int]int{api.MaxLive: api.MaxLive * (api.MaxLive - 1), api.MaxLive - 1: api.MaxLive*(api.MaxLive-1) - 1} {
		got, e := Tuples(one(t, fmt.Sprint("when x : a over last ", n, " ; when y : a ;")), 0, l)
		if e != api.OK || len(got) != pairs {
			t.Errorf("over last %d: %d, %v; want %d", n, len(got), e, pairs)
		}
		// Each End is one behind that of the one ahead, so that n - 1 of them last as long.
		got, e = Tuples(one(t, fmt.Sprint("when x : a over time ", n-1, " ; when y : a ;")), 0, l)
		if e != api.OK || len(got) != pairs {
			t.Errorf("over time %d: %d, %v; want %d", n-1, len(got), e, pairs)
		}
	}
}

// refused: what the chapter asks of events, in its order, of any book.
func refused(b api.Book, l []api.Event) api.Errno {
	if e := check.Check(b); e != api.OK {
		return e
	}
	if len(l) > api.MaxLive {
		return api.ErrSize
	}
	number, end := 0, 0
	for _, x := range l {
		if e := value.CheckEvent(b.Types, x); e != api.OK {
			return e
		}
		if x.Number <= number || x.Span.End < end {
			return api.ErrState
		}
		number, end = x.Number, x.Span.End
	}
	return api.OK
}

// leaves of a value: its numbers, texts and lists, at any depth.
func leaves(v reflect.Value) []reflect.Value {
	switch v.Kind() {
	case reflect.Struct:
		var l []reflect.Value
		for i := range v.NumField() {
			l = append(l, leaves(v.Field(i))...)
		}
		return l
	case reflect.Slice:
		l := []reflect.Value{v}
		for i := range v.Len() {
			l = append(l, leaves(v.Index(i))...)
		}
		return l
	}
	return []reflect.Value{v}
}

// wreck one leaf of what is given.
func (d drawer) wreck(given any) {
	l := leaves(reflect.ValueOf(given).Elem())
	v := l[d.Intn(len(l))]
	switch v.Kind() {
	case reflect.Int:
		v.SetInt(pick(d, v.Int()-1, v.Int()+1, -1, 0, 1, 2, 3, 4, 7, 8, 1<<30+1, 1<<51, math.MaxInt, math.MinInt))
	case reflect.String:
		v.SetString(pick(d, "", "a", "w0", "n", "s", "when", "A", "0", "\xff", "abcdefghijklmnopqrstuvwxyz"))
	case reflect.Slice:
		if d.Intn(2) == 0 {
			v.Set(v.Slice(0, v.Len()/2))
		} else {
			v.Set(reflect.AppendSlice(v, v))
		}
	}
}

// TestWrecked: P11.1, P11.3: books and events that are wrecked at any place are refused as the chapter says; no call panics, and none tells tuples with an error.
func TestWrecked(t *testing.T) {
	seen := map[api.Errno]int{}
	for seed := range 4000 {
		d := draw(seed)
		b := d.book(t)
		l := d.events(1 + d.Intn(6))
		if d.Intn(2) == 0 {
			d.wreck(&b)
		}
		for range d.Intn(3) {
			d.wreck(&l)
		}
		wantE := refused(b, l)
		if e := CheckEvents(b, l); e != wantE {
			t.Fatalf("%+v, %v: %v; want %v", b, l, e, wantE)
		}
		rule := d.Intn(4) - 1
		if wantE == api.OK && (rule < 0 || rule >= len(b.Rules)) {
			wantE = api.ErrRange
		}
		tuples, e := Tuples(b, rule, l)
		if e != wantE || e != api.OK && len(tuples) > 0 {
			t.Fatalf("%+v, %v: %v, %v; want %v", b, l, tuples, e, wantE)
		}
		if e == api.OK {
			want(t, "wrecked, but fine", b, rule, l, judge{b, rule, l, map[string]int{}}.tuples(), api.OK)
		}
		seen[e]++
	}
	for _, e := range []api.Errno{api.OK, api.ErrSize, api.ErrRange, api.ErrKind, api.ErrForm, api.ErrNone, api.ErrState, api.ErrOrder, api.ErrType} {
		if seen[e] < 10 {
			t.Errorf("%v: just %d times: %v", e, seen[e], seen)
		}
	}
}

// given to one call, all of it.
type given struct {
	Book   api.Book
	Events []api.Event
}

// TestUnchanged: neither function changes anything that it is given, spare room neither; and neither keeps anything: what was answered once is answered again.
func TestUnchanged(t *testing.T) {
	for seed := range 150 {
		d := draw(seed)
		b := d.book(t)
		l := d.events(d.Intn(8))
		if seed%5 == 0 {
			d.wreck(&b)
		}
		if seed%7 == 0 {
			d.wreck(&l)
		}
		g, was := roomy(given{b, l}), roomy(given{b, l})
		first, firstE := Tuples(g.Book, 0, g.Events)
		wantE := CheckEvents(g.Book, g.Events)
		other := draw(seed + 1)
		Tuples(other.book(t), 0, other.events(6))
		again, againE := Tuples(g.Book, 0, g.Events)
		if !same(first, again) || firstE != againE || CheckEvents(g.Book, g.Events) != wantE {
			t.Fatalf("%+v: %v, %v, then %v, %v", g, first, firstE, again, againE)
		}
		if !sameRoom(reflect.ValueOf(g), reflect.ValueOf(was)) {
			t.Fatalf("changed: %+v; it was %+v", g, was)
		}
	}
}

// TestNewMemory: what Tuples tells is new memory, spare room too: no two tuples share any, nor do two answers.
func TestNewMemory(t *testing.T) {
	b := one(t, "when x : a ; when y : a ;")
	l := came("aaaa")
	first, _ := Tuples(b, 0, l)
	second, _ := Tuples(b, 0, l)
	asIs := told(second)
	for i, x := range first {
		for k := range x[:cap(x)] {
			x[:cap(x)][k] = -1 - i
		}
	}
	for i, x := range first {
		if len(x) != 2 || x[0] != -1-i || x[1] != -1-i {
			t.Errorf("%d: %v: another one was written to", i, x)
		}
	}
	if told(second) != asIs {
		t.Error("another answer was changed")
	}
	wantOne(t, "what was given", b, l, asIs)
}

// roomy: a copy of what is given, with spare room behind each list that is not empty itself.
func roomy(g given) given { return copied(reflect.ValueOf(g), 2).Interface().(given) }

// copied: a copy of all of a value, with so much spare room in its lists, filled with their first elements.
func copied(v reflect.Value, room int) reflect.Value {
	out := reflect.New(v.Type()).Elem()
	out.Set(v)
	switch v.Kind() {
	case reflect.Struct:
		for i := range v.NumField() {
			out.Field(i).Set(copied(v.Field(i), room))
		}
	case reflect.Slice:
		n := v.Len()
		if n == 0 {
			return reflect.Zero(v.Type())
		}
		out = reflect.MakeSlice(v.Type(), n+room, n+room)
		for i := range n + room {
			out.Index(i).Set(copied(v.Index(i%n), room))
		}
		return out.Slice(0, n)
	}
	return out
}

// sameRoom: are two values the same, in the spare room of their lists too?
func sameRoom(a, b reflect.Value) bool {
	switch a.Kind() {
	case reflect.Struct:
		for i := range a.NumField() {
			if !sameRoom(a.Field(i), b.Field(i)) {
				return false
			}
		}
		return true
	case reflect.Slice:
		if a.Len() != b.Len() || a.Cap() != b.Cap() {
			return false
		}
		for i := range a.Cap() {
			if !sameRoom(a.Slice(0, a.Cap()).Index(i), b.Slice(0, b.Cap()).Index(i)) {
				return false
			}
		}
		return true
	}
	return a.Interface() == b.Interface()
}
