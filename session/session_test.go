package session

import (
	"fmt"
	"math"
	"reflect"
	"slices"
	"strings"
	"testing"

	"dotterel/api"
	"dotterel/check"
	"dotterel/lex"
	"dotterel/parse"
	"dotterel/plan"
)

// types of the books that are written out in the tests.
const types = "type a { n : int } type b { n : int , s : text } type c { } type d { } "

func num(n int) api.Value { return api.Value{Kind: api.Int, Int: n} }

func text(s string) api.Value { return api.Value{Kind: api.Text, Text: s} }

// insert an event from a Start to an End.
func insert(kind string, start, end int, values ...api.Value) api.Operation {
	return api.Operation{Kind: api.Insert, Type: kind, Span: api.Span{Start: start, End: end}, Values: values}
}

// an event of the type a that is just its End, with a value.
func evA(end, n int) api.Operation { return insert("a", end, end, num(n)) }

// an event of the type c that is just its End.
func evC(end int) api.Operation { return insert("c", end, end) }

func step(delta int) api.Operation { return api.Operation{Kind: api.Advance, Delta: delta} }

func collect(delta int) api.Operation {
	return api.Operation{Kind: api.Advance, Delta: delta, Collect: true}
}

func query(kind string) api.Operation { return api.Operation{Kind: api.Query, Type: kind} }

// ops: a list, told shortly.
func ops(l ...api.Operation) []api.Operation { return l }

// times: a list of one operation, so many times.
func times(n int, o api.Operation) []api.Operation { return slices.Repeat(ops(o), n) }

// told: firings as "@At rule: Events", with "> Made" behind those of which an event came.
func told(l []api.Firing) string {
	var out []string
	for _, f := range l {
		s := fmt.Sprintf("@%d %d: %s", f.At, f.Rule, strings.Trim(fmt.Sprint(f.Events), "[]"))
		if f.Made != 0 {
			s += fmt.Sprint(" > ", f.Made)
		}
		out = append(out, s)
	}
	return strings.Join(out, ", ")
}

// fired: all firings of answers, in the form of told.
func fired(l []api.Answer) string {
	var all []api.Firing
	for _, a := range l {
		all = append(all, a.Firings...)
	}
	return told(all)
}

// answers as "Number" or "! Code", with firings in brackets.
func answers(l []api.Answer) string {
	var out []string
	for _, a := range l {
		s := fmt.Sprint(a.Number)
		if a.Code != api.OK {
			s = fmt.Sprint("!", int(a.Code))
			if a.Number != 0 || len(a.Firings) > 0 {
				s += fmt.Sprint(" with ", a)
			}
		}
		if len(a.Firings) > 0 {
			s += " (" + told(a.Firings) + ")"
		}
		out = append(out, s)
	}
	return strings.Join(out, "; ")
}

// play operations of a book of which nothing is refused.
func play(t *testing.T, source string, l []api.Operation) []api.Answer {
	t.Helper()
	got, place, e := Play(source, l)
	if e != api.OK || place != 0 || len(got) != len(l) {
		t.Fatalf("Play(%q): %d answers to %d operations, %d, %v", source, len(got), len(l), place, e)
	}
	return got
}

// wantAnswers of a book with these rules.
func wantAnswers(t *testing.T, rules string, l []api.Operation, want string) {
	t.Helper()
	if got := answers(play(t, types+rules, l)); got != want {
		t.Errorf("%s\nof %v:\n got %s\nwant %s", rules, l, got, want)
	}
}

// wantFired: all firings of a book with these rules.
func wantFired(t *testing.T, rules string, l []api.Operation, want string) {
	t.Helper()
	got := play(t, types+rules, l)
	for i, a := range got {
		if a.Code != api.OK {
			t.Errorf("%s: the operation %v is refused: %v", rules, l[i], a.Code)
		}
	}
	if s := fired(got); s != want {
		t.Errorf("%s\nof %v:\n got %s\nwant %s", rules, l, s, want)
	}
}

// TestLoad: P14.1: texts that are books are told as they are parsed.
func TestLoad(t *testing.T) {
	for _, s := range []string{
		"",
		" # nothing but a note",
		"type a { }",
		types,
		types + "rule one { when x : a ; }",
		types + "rule one { when x : a [ n > 3 ] over last 2 ; when y : b over time 9 ; not u : c ; many 2 of n p : a within 4 ; where x before ( 0 , 5 ) y ; where u startedby ( 1 , 3 ) x ; emit d ( ) ; }",
		"rule one { when x : a ; }\t# a rule ahead of its type\r\ntype a { }",
		strings.Repeat(" ", api.MaxSource),
		strings.Repeat(" ", api.MaxSource-10) + "type a { }",
	} {
		tokens, _, _ := lex.Cut(s)
		want, _, e := parse.Parse(tokens)
		if e != api.OK {
			t.Fatalf("Parse(%q): %v", s, e)
		}
		got, place, e := Load(s)
		if e != api.OK || place != 0 || !reflect.DeepEqual(got, want) {
			t.Errorf("Load(%q): %+v, %d, %v; want %+v", s, got, place, e, want)
		}
	}
}

// refusal of a text.
type refusal struct {
	source string
	place  int
	code   api.Errno
}

const (
	never   = "rule never { when x : a ; when y : a ; where x meets ( 1 , 2 ) y ; } "
	endless = "rule endless { when x : a ; not u : c ; } "
)

// refusals of texts, each layer's ahead of those behind it.
func refusals() []refusal {
	return []refusal{
		// Cut, with the byte's place.
		{"?", 0, api.ErrForm},
		{"type a { } ?", 11, api.ErrForm},
		{"type a { n : 01", 13, api.ErrForm},
		{"type\n\nabcdefghijk { }", 6, api.ErrSize},
		{types + "rule one { when x : a [ n = 1125899906842625 ] ; }", len(types) + 28, api.ErrRange},
		{"type a # a note\n\"", 16, api.ErrShort},
		{strings.Repeat(" ", api.MaxSource+1), 0, api.ErrSize},
		{strings.Repeat("a ", api.MaxTokens) + " a", 2*api.MaxTokens + 1, api.ErrFull},
		// Cut ahead of Parse, Check and Offsets.
		{"a type ?", 7, api.ErrForm},
		{"type a { } type a { } ?", 22, api.ErrForm},
		{types + never + "?", len(types + never), api.ErrForm},
		// Parse, with the token's place.
		{"type", 1, api.ErrShort},
		{"a", 0, api.ErrForm},
		{"type   a   { ; }", 3, api.ErrForm},
		{"type a { } rule one { when x : a [ " + strings.Repeat("( ", api.MaxDepth), 11 + api.MaxDepth, api.ErrDeep},
		// Parse ahead of Check and Offsets.
		{"type a { } type a { } type", 9, api.ErrShort},
		{types + never + "rule", 51, api.ErrShort},
		// Check.
		{"type a { } type a { }", 0, api.ErrTwice},
		{"type a { n : int , n : int }", 0, api.ErrTwice},
		{"rule one { when x : a ; }", 0, api.ErrNone},
		{"rule one { }", 0, api.ErrSize},
		{"type a { } rule one { when x : a over last 0 ; }", 0, api.ErrRange},
		{"type a { } rule one { when x : a [ 1 = \"1\" ] ; }", 0, api.ErrType},
		{"type a { } rule one { when x : a ; where x before x ; }", 0, api.ErrForm},
		{"type a { } rule one { when x : a ; when y : a ; where x before ( 2 , 1 ) y ; }", 0, api.ErrOrder},
		{"type a { } rule one { when x : a ; emit a ( ) ; }", 0, api.ErrEndless},
		// Check ahead of Offsets.
		{types + never + "rule two { when x : e ; }", 0, api.ErrNone},
		{types + endless + "type a { }", 0, api.ErrTwice},
		// Offsets.
		{types + never, 0, api.ErrNever},
		{types + endless, 0, api.ErrEndless},
		{types + "rule one { when x : a ; } " + never + endless, 0, api.ErrNever},
		{types + "rule one { when x : a ; } " + endless + never, 0, api.ErrEndless},
	}
}

// TestLoadRefused: P14.1: what the layers below refuse, in their order, with the place; and no book.
func TestLoadRefused(t *testing.T) {
	for _, r := range refusals() {
		got, place, e := Load(r.source)
		if e != r.code || place != r.place || len(got.Types) > 0 || len(got.Rules) > 0 {
			t.Errorf("Load(%q): %v, %d, %v; want %d, %v", r.source, got, place, e, r.place, r.code)
		}
	}
}

// TestRefusals: the errors of the test above are those of the layers that it says: of just one of them, or of the first one.
func TestRefusals(t *testing.T) {
	layer := func(s string) string {
		tokens, _, e := lex.Cut(s)
		if e != api.OK {
			return "Cut"
		}
		b, _, e := parse.Parse(tokens)
		if e != api.OK {
			return "Parse"
		}
		if check.Check(b) != api.OK {
			return "Check"
		}
		if _, e := plan.Offsets(b); e != api.OK {
			return "Offsets"
		}
		return "none"
	}
	seen := map[string]int{}
	for _, r := range refusals() {
		seen[layer(r.source)]++
	}
	if want := map[string]int{"Cut": 11, "Parse": 6, "Check": 11, "Offsets": 4}; !reflect.DeepEqual(seen, want) {
		t.Errorf("%v, want %v", seen, want)
	}
}

// things that an operation may have, each by itself.
func things() map[string]func(o *api.Operation) {
	return map[string]func(o *api.Operation){
		"Type":         func(o *api.Operation) { o.Type = "a" },
		"odd Type":     func(o *api.Operation) { o.Type = "\x00" },
		"Start":        func(o *api.Operation) { o.Span.Start = 1 },
		"low Start":    func(o *api.Operation) { o.Span.Start = -1 },
		"End":          func(o *api.Operation) { o.Span.End = 1 },
		"low End":      func(o *api.Operation) { o.Span.End = math.MinInt },
		"Span":         func(o *api.Operation) { o.Span = api.Span{Start: 2, End: 3} },
		"Values":       func(o *api.Operation) { o.Values = []api.Value{num(1)} },
		"empty Values": func(o *api.Operation) { o.Values = make([]api.Value, 2) },
		"Delta":        func(o *api.Operation) { o.Delta = 1 },
		"low Delta":    func(o *api.Operation) { o.Delta = -1 },
		"Collect":      func(o *api.Operation) { o.Collect = true },
	}
}

// has: what a Kind has, of the things above.
func has(kind int) []string {
	switch kind {
	case api.Insert:
		return []string{"Type", "odd Type", "Start", "low Start", "End", "low End", "Span", "Values", "empty Values"}
	case api.Advance:
		return []string{"Delta", "low Delta", "Collect"}
	}
	return []string{"Type", "odd Type"}
}

// TestBare: P14.3: each Kind with nothing, with each thing, and with all that it has and each other thing.
func TestBare(t *testing.T) {
	for _, kind := range []int{api.Insert, api.Advance, api.Query} {
		if e := Bare(api.Operation{Kind: kind}); e != api.OK {
			t.Errorf("%d with nothing: %v", kind, e)
		}
		if e := Bare(api.Operation{Kind: kind, Values: []api.Value{}}); e != api.OK {
			t.Errorf("%d with a list without elements: %v", kind, e)
		}
		whole := api.Operation{Kind: kind}
		for _, thing := range has(kind) {
			things()[thing](&whole)
		}
		if e := Bare(whole); e != api.OK {
			t.Errorf("%+v: %v", whole, e)
		}
		for thing, add := range things() {
			want := api.ErrForm
			if slices.Contains(has(kind), thing) {
				want = api.OK
			}
			alone, beside := api.Operation{Kind: kind}, whole
			add(&alone)
			add(&beside)
			if e := Bare(alone); e != want {
				t.Errorf("%d with %s alone: %v, want %v", kind, thing, e, want)
			}
			if e := Bare(beside); e != want {
				t.Errorf("%d with %s and all that it has: %v, want %v", kind, thing, e, want)
			}
		}
	}
}

// TestBareKinds: P14.3: Kinds that there are not, below and above, with nothing and with anything.
func TestBareKinds(t *testing.T) {
	for _, kind := range []int{0, -1, -2, 4, 5, 1 << 32, 1<<32 + 1, math.MinInt, math.MaxInt} {
		o := api.Operation{Kind: kind}
		if e := Bare(o); e != api.ErrKind {
			t.Errorf("%d: %v", kind, e)
		}
		for thing, add := range things() {
			add(&o)
			if e := Bare(o); e != api.ErrKind {
				t.Errorf("%d with %s: %v", kind, thing, e)
			}
		}
	}
}

// TestExample: the document's example of the whole.
func TestExample(t *testing.T) {
	const book = "type a { n : int } type b { n : int } rule one { when x : a ; emit b ( x . n ) ; } rule two { when y : b [ n = 3 ] ; }"
	if got := answers(play(t, book, ops(evA(0, 3), step(2)))); got != "1; 2 (@1 0: 1 > 2, @2 1: 2)" {
		t.Error(got)
	}
	if got := answers(play(t, book, ops(evA(0, 4), step(2)))); got != "1; 2 (@1 0: 1 > 2)" {
		t.Error(got)
	}
}

// wantPlayRefused: an error with a place, and no answers.
func wantPlayRefused(t *testing.T, source string, l []api.Operation, place int, code api.Errno) {
	t.Helper()
	got, at, e := Play(source, l)
	if e != code || at != place || len(got) > 0 {
		t.Errorf("Play(%q, %d operations): %v, %d, %v; want %d, %v", source, len(l), got, at, e, place, code)
	}
}

// TestPlayRefused: P14.2: what Load tells, whatever the operations; then too many of them.
func TestPlayRefused(t *testing.T) {
	for _, r := range refusals() {
		for _, l := range [][]api.Operation{nil, ops(step(1)), ops(api.Operation{}), times(api.MaxOps+1, step(1))} {
			wantPlayRefused(t, r.source, l, r.place, r.code)
		}
	}
	for _, s := range []string{"", types} {
		wantPlayRefused(t, s, times(api.MaxOps+1, step(0)), 0, api.ErrSize)
		wantPlayRefused(t, s, make([]api.Operation, 2*api.MaxOps), 0, api.ErrSize)
	}
}

// TestHowMany: P14.2: no operations, and just as many as MaxOps.
func TestHowMany(t *testing.T) {
	for _, l := range [][]api.Operation{nil, {}} {
		if got, place, e := Play(types, l); e != api.OK || place != 0 || len(got) != 0 {
			t.Errorf("no operations: %v, %d, %v", got, place, e)
		}
	}
	for i, a := range play(t, types, times(api.MaxOps, step(1))) {
		if a.Code != api.OK || a.Number != i+1 || len(a.Firings) > 0 {
			t.Errorf("%d: %v", i, a)
		}
	}
	got := play(t, types, times(api.MaxOps, evC(0)))
	for i, a := range got {
		if i < api.MaxLive && (a.Code != api.OK || a.Number != i+1) || i >= api.MaxLive && (a.Code != api.ErrFull || a.Number != 0) {
			t.Errorf("%d: %v", i, a)
		}
	}
}

// TestBeginning: P14.2: at the beginning the time is 0, and no event came; each call begins anew.
func TestBeginning(t *testing.T) {
	for range 2 {
		wantAnswers(t, "", ops(query("a"), query("d"), step(0), evA(0, 1), step(0)), "0; 0; 0; 1; 0")
	}
}

// TestQuery: P14.3: of each type as many as are kept; types that there are not.
func TestQuery(t *testing.T) {
	b := insert("b", 0, 0, num(1), text("s"))
	wantAnswers(t, "", ops(query("a"), evA(0, 1), query("a"), query("b"), b, evA(0, 1), query("a"), query("b"), query("c")), "0; 1; 1; 0; 2; 3; 2; 1; 0")
	wantAnswers(t, "", ops(evA(0, 1), query("e"), query(""), query("A"), query("a "), query("int"), query("aa")), "1; !6; !6; !6; !6; !6; !6")
	// What is refused is not kept, and what is emitted is.
	wantAnswers(t, "rule one { when x : a ; emit c ( ) ; }", ops(insert("c", 0, 1), query("c"), evA(0, 1), query("c"), step(1), query("c"), query("a")), "!12; 0; 1; 0; 1 (@1 0: 1 > 2); 1; 1")
	wantAnswers(t, "rule one { when x : a ; }", ops(evA(0, 1), evC(0), query("a"), query("c"), collect(0), query("a"), query("c"), collect(1), query("a")), "1; 2; 1; 1; 0; 1; 0; 1 (@1 0: 1); 0")
}

// TestInsert: P14.4: Numbers go on by one, whatever the type; a Start may lie far back.
func TestInsert(t *testing.T) {
	b := insert("b", 0, 0, num(-1), text("s"))
	wantAnswers(t, "", ops(evA(0, 1), evA(0, 1), b, evC(0), evA(0, -1)), "1; 2; 3; 4; 5")
	wantAnswers(t, "", ops(step(7), insert("c", 7, 7), insert("c", 0, 7), step(1), insert("c", 3, 8), query("c")), "7; 1; 2; 8; 3; 3")
	wantAnswers(t, "", ops(insert("a", 0, 0, num(api.MaxInt)), insert("a", 0, 0, num(-api.MaxInt)), insert("b", 0, 0, num(0), text(strings.Repeat("\xff", api.MaxText)))), "1; 2; 3")
	wantAnswers(t, "", ops(step(api.MaxTime), insert("c", 0, api.MaxTime), insert("c", api.MaxTime, api.MaxTime)), "1099511627776; 1; 2")
}

// bad operation, at the time 5.
type bad struct {
	o    api.Operation
	code api.Errno
}

// badAll: operations that are refused at the time 5, with the error that is named first where several apply.
func badAll() []bad {
	values := func(l ...api.Value) api.Operation { return insert("b", 0, 5, l...) }
	also := func(o api.Operation, change func(o *api.Operation)) api.Operation {
		change(&o)
		return o
	}
	longer := text(strings.Repeat("s", api.MaxText+1))
	return []bad{
		// What Bare refuses.
		{api.Operation{}, api.ErrKind},
		{api.Operation{Kind: 4, Type: "a", Delta: -1}, api.ErrKind},
		{also(query("e"), func(o *api.Operation) { o.Delta = 1 }), api.ErrForm},
		{also(query("a"), func(o *api.Operation) { o.Collect = true }), api.ErrForm},
		{also(step(-1), func(o *api.Operation) { o.Type = "a" }), api.ErrForm},
		{also(step(1), func(o *api.Operation) { o.Values = []api.Value{num(1)} }), api.ErrForm},
		{also(insert("e", 0, 9), func(o *api.Operation) { o.Collect = true }), api.ErrForm},
		{also(insert("c", 5, 5), func(o *api.Operation) { o.Delta = 1 }), api.ErrForm},
		// Types that there are not.
		{query("e"), api.ErrNone},
		{insert("e", 5, 5), api.ErrNone},
		{insert("", 5, 5), api.ErrNone},
		{insert("e", 9, 3, api.Value{}), api.ErrNone},
		// What Fit refuses.
		{insert("c", 5, 5, num(1)), api.ErrType},
		{insert("a", 5, 5), api.ErrType},
		{insert("a", 5, 5, text("")), api.ErrType},
		{values(num(1)), api.ErrType},
		{values(text("s"), num(1)), api.ErrType},
		{values(num(1), text("s"), num(1)), api.ErrType},
		{values(num(1), api.Value{Kind: 3}), api.ErrKind},
		{values(num(1), api.Value{Kind: api.Text, Int: 1}), api.ErrForm},
		{values(num(1), longer), api.ErrSize},
		{values(num(api.MaxInt+1), longer), api.ErrRange},
		{insert("c", -1, 7, num(1)), api.ErrType},
		{insert("a", 7, 5, num(-api.MaxInt-1)), api.ErrRange},
		// Spans that may not be.
		{insert("c", -1, 5), api.ErrRange},
		{insert("c", 5, -1), api.ErrRange},
		{insert("c", 5, api.MaxTime+1), api.ErrRange},
		{insert("c", api.MaxTime+1, 5), api.ErrRange},
		{insert("c", 6, 5), api.ErrOrder},
		{insert("c", 5, 4), api.ErrOrder},
		{insert("c", math.MinInt, math.MaxInt), api.ErrRange},
		// Events that do not end now.
		{insert("c", 4, 4), api.ErrLate},
		{insert("c", 0, 4), api.ErrLate},
		{insert("c", 5, 6), api.ErrLate},
		{insert("c", 0, 0), api.ErrLate},
		{insert("c", 5, api.MaxTime), api.ErrLate},
		// Deltas that Add refuses.
		{step(-1), api.ErrRange},
		{collect(-1), api.ErrRange},
		{step(math.MinInt), api.ErrRange},
		{step(api.MaxTime - 4), api.ErrOver},
		{collect(api.MaxTime - 4), api.ErrOver},
		{step(math.MaxInt), api.ErrOver},
	}
}

// TestRefused: P14.2: an operation that is refused tells its error and does nothing: the first one, later ones, and many of them; all others are told what they are without it.
func TestRefused(t *testing.T) {
	const rules = "rule one { when x : a ; emit c ( ) ; } rule two { when x : a over time 9 ; when y : c over time 9 ; }"
	good := ops(evA(5, 3), query("a"), step(1), query("c"), collect(1), evA(7, 2), collect(3), query("a"), query("c"))
	want := answers(play(t, types+rules, slices.Concat(ops(step(5)), good)))
	for _, x := range badAll() {
		got := play(t, types+rules, slices.Concat(ops(step(5), x.o, x.o), good))
		for _, a := range got[1:3] {
			if a.Code != x.code || a.Number != 0 || len(a.Firings) > 0 {
				t.Errorf("%+v: %v, want %v", x.o, a, x.code)
			}
		}
		if s := answers(slices.Concat(got[:1], got[3:])); s != want {
			t.Errorf("behind %+v: %s, want %s", x.o, s, want)
		}
	}
	// At the end of them all, and each time.
	var l []api.Operation
	for _, x := range badAll() {
		l = append(l, x.o)
	}
	got := play(t, types+rules, slices.Concat(ops(step(5)), l, ops(evA(5, 3)), l, ops(query("a"), step(0))))
	for i, x := range badAll() {
		if got[1+i].Code != x.code || got[2+len(l)+i].Code != x.code {
			t.Errorf("%+v: %v, %v, want %v", x.o, got[1+i], got[2+len(l)+i], x.code)
		}
	}
	if s := answers(append(got[len(got)-2:], got[1+len(l)])); s != "1; 5; 1" {
		t.Errorf("behind all: %s", s)
	}
}

// TestRefusedFirst: P14.2: operations that are refused at the very beginning.
func TestRefusedFirst(t *testing.T) {
	for _, x := range badAll() {
		if x.code == api.ErrLate || x.code == api.ErrOver || x.o.Span.End == 5 {
			continue // at the time 0 that is told otherwise
		}
		got := play(t, types, ops(x.o, query("a"), step(0), evA(0, 1)))
		if got[0].Code != x.code || answers(got[1:]) != "0; 0; 1" {
			t.Errorf("%+v: %v, want %v", x.o, got, x.code)
		}
	}
	wantAnswers(t, "", ops(insert("c", 0, 1), insert("c", 1, 1), step(api.MaxTime+1), step(math.MaxInt), evC(0)), "!12; !12; !10; !10; 1")
}

// TestFull: P14.4: MaxLive events are kept, of one type or of several; what goes ahead of ErrFull.
func TestFull(t *testing.T) {
	b := insert("b", 0, 0, num(1), text("s"))
	for _, half := range [][]api.Operation{times(api.MaxLive/2, evC(0)), times(api.MaxLive/2, b)} {
		l := slices.Concat(half, times(api.MaxLive/2-1, evA(0, 1)))
		got := answers(play(t, types, slices.Concat(l, ops(evA(0, 1), evA(0, 1), evC(0), insert("e", 0, 0), insert("c", 0, 0, num(1)), insert("c", 1, 0), insert("c", 0, 1), query("a"), query("d"))))[len(l):])
		if want := fmt.Sprint(api.MaxLive, "; !8; !8; !6; !13; !11; !12; ", api.MaxLive/2, "; 0"); got != want {
			t.Errorf("%s, want %s", got, want)
		}
	}
}

// courseOf a session of a book of which nothing is refused.
func courseOf(t *testing.T, source string) *course {
	t.Helper()
	b, _, e := Load(source)
	if e != api.OK {
		t.Fatalf("Load(%q): %v", source, e)
	}
	return begin(b)
}

// TestMaxCount: P14.4, P14.6: where MaxCount events came, none comes any more, by an Insert or by a rule. (MaxOps operations do not get so far, so that the count is set here.)
func TestMaxCount(t *testing.T) {
	c := courseOf(t, types+"rule one { when x : a ; emit c ( ) ; } rule two { when x : a ; emit d ( ) ; }")
	c.count = api.MaxCount - 3
	var got []api.Answer
	for _, o := range ops(evA(0, 1), evA(0, 1), collect(1), evA(1, 1), insert("e", 1, 1), insert("c", 0, 0), query("c"), query("d"), collect(9), insert("a", 10, 10, num(1))) {
		got = append(got, c.do(o))
	}
	want := "1048574; 1048575; 1 (@1 0: 1048574 > 1048576, @1 0: 1048575, @1 1: 1048574, @1 1: 1048575); !8; !6; !12; 0; 0; 10; !8"
	if s := answers(got); s != want {
		t.Errorf("%s, want %s", s, want)
	}
}
