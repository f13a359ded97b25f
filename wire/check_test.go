package wire

import (
	"math"
	"slices"
	"strings"
	"testing"

	"dotterel/api"
)

// wantRefused: an operation that Check and Encode refuse alike, without bytes.
func wantRefused(t *testing.T, o api.Operation, want api.Errno) {
	t.Helper()
	if e := Check(o); e != want {
		t.Errorf("Check(%+v): %v, want %v", o, e, want)
	}
	if b, e := Encode(o); e != want || len(b) > 0 {
		t.Errorf("Encode(%+v): %v, %v; want %v", o, b, e, want)
	}
}

// wantFine: an operation that may be, and is decoded as it was.
func wantFine(t *testing.T, o api.Operation) {
	t.Helper()
	if e := Check(o); e != api.OK {
		t.Errorf("Check(%+v): %v", o, e)
	}
	b, e := Encode(o)
	if e != api.OK || len(b) == 0 {
		t.Errorf("Encode(%+v): %v, %v", o, b, e)
	}
	wantOperation(t, b, o)
}

// TestKinds: P15.1: Kinds that there are not, with nothing, and with what others have.
func TestKinds(t *testing.T) {
	for _, kind := range []int{0, -1, 4, 5, 255, 256, 257, 258, 1<<32 + 1, math.MinInt, math.MaxInt} {
		wantRefused(t, api.Operation{Kind: kind}, api.ErrKind)
		for _, c := range told {
			c.o.Kind = kind
			wantRefused(t, c.o, api.ErrKind)
		}
		wantRefused(t, api.Operation{Kind: kind, Type: "A", Delta: -1, Span: api.Span{Start: -1}, Values: make([]api.Value, 9)}, api.ErrKind)
	}
}

// TestBare: P15.1: what Bare refuses, of each Kind, ahead of all else.
func TestBare(t *testing.T) {
	strange := map[string]func(o *api.Operation){
		"Type":         func(o *api.Operation) { o.Type = "a" },
		"odd Type":     func(o *api.Operation) { o.Type = "A" },
		"Start":        func(o *api.Operation) { o.Span.Start = -1 },
		"End":          func(o *api.Operation) { o.Span.End = 1 },
		"Values":       func(o *api.Operation) { o.Values = []api.Value{num(1)} },
		"empty Values": func(o *api.Operation) { o.Values = make([]api.Value, 9) },
		"Delta":        func(o *api.Operation) { o.Delta = 1 },
		"low Delta":    func(o *api.Operation) { o.Delta = -1 },
		"Collect":      func(o *api.Operation) { o.Collect = true },
	}
	not := map[int][]string{
		api.Insert:  {"Delta", "low Delta", "Collect"},
		api.Advance: {"Type", "odd Type", "Start", "End", "Values", "empty Values"},
		api.Query:   {"Start", "End", "Values", "empty Values", "Delta", "low Delta", "Collect"},
	}
	for kind, names := range not {
		for _, name := range names {
			for _, o := range []api.Operation{insert(1, 2, num(1)), insert(-1, -2, make([]api.Value, 9)...), step(3), step(-1), collect(math.MaxInt), query("a"), query("")} {
				if o.Kind == kind {
					strange[name](&o)
					wantRefused(t, o, api.ErrForm)
				}
			}
		}
	}
}

// TestDelta: P15.1: a Delta is a time.
func TestDelta(t *testing.T) {
	for _, n := range []int{0, 1, api.MaxTime - 1, api.MaxTime} {
		wantFine(t, step(n))
		wantFine(t, collect(n))
	}
	for _, n := range []int{-1, -2, math.MinInt, api.MaxTime + 1, 2 * api.MaxTime, math.MaxInt} {
		wantRefused(t, step(n), api.ErrRange)
		wantRefused(t, collect(n), api.ErrRange)
	}
}

// TestSpan: P15.1: spans that may be, and such as may not.
func TestSpan(t *testing.T) {
	for _, s := range []api.Span{{}, {Start: 0, End: 1}, {Start: 5, End: 5}, {Start: 0, End: api.MaxTime}, {Start: api.MaxTime, End: api.MaxTime}} {
		wantFine(t, insert(s.Start, s.End))
		wantFine(t, insert(s.Start, s.End, num(1), text("b")))
	}
	for _, s := range []api.Span{
		{Start: -1, End: 0}, {Start: -1, End: 7}, {Start: 0, End: -1}, {Start: -1, End: -1}, {Start: -1, End: -2},
		{Start: 0, End: api.MaxTime + 1}, {Start: api.MaxTime + 1, End: api.MaxTime + 1}, {Start: api.MaxTime + 1, End: 0},
		{Start: math.MinInt, End: math.MaxInt}, {Start: math.MaxInt, End: math.MinInt},
	} {
		wantRefused(t, insert(s.Start, s.End), api.ErrRange)
		wantRefused(t, insert(s.Start, s.End, num(1)), api.ErrRange)
	}
	for _, s := range []api.Span{{Start: 1, End: 0}, {Start: 128, End: 127}, {Start: api.MaxTime, End: 0}, {Start: api.MaxTime, End: api.MaxTime - 1}} {
		wantRefused(t, insert(s.Start, s.End), api.ErrOrder)
		wantRefused(t, insert(s.Start, s.End, num(1)), api.ErrOrder)
	}
}

// TestHowMany: P15.1: as many Values as MaxFields, and more, up to such numbers as no byte tells.
func TestHowMany(t *testing.T) {
	for n := range api.MaxFields + 1 {
		wantFine(t, insert(0, 1, slices.Repeat([]api.Value{num(-9)}, n)...))
		wantFine(t, insert(0, 1, slices.Repeat([]api.Value{text(longest)}, n)...))
	}
	for _, n := range []int{api.MaxFields + 1, api.MaxFields + 2, 255, 256, 257, 256 + api.MaxFields, 1000} {
		wantRefused(t, insert(0, 1, slices.Repeat([]api.Value{num(1)}, n)...), api.ErrSize)
		wantRefused(t, insert(0, 1, make([]api.Value, n)...), api.ErrSize)
	}
}

// badValues, each with what is refused of it.
var badValues = []struct {
	v    api.Value
	want api.Errno
}{
	{api.Value{}, api.ErrKind},
	{api.Value{Kind: -1}, api.ErrKind},
	{api.Value{Kind: 3, Int: 1}, api.ErrKind},
	{api.Value{Kind: 256 + api.Int}, api.ErrKind},
	{api.Value{Kind: math.MaxInt}, api.ErrKind},
	{api.Value{Kind: api.Int, Text: "a"}, api.ErrForm},
	{api.Value{Kind: api.Text, Int: 1}, api.ErrForm},
	{api.Value{Kind: api.Text, Int: -1, Text: "a"}, api.ErrForm},
	{text(strings.Repeat("a", api.MaxText+1)), api.ErrSize},
	{text(strings.Repeat("a", 256)), api.ErrSize},
	{text(strings.Repeat("a", 256+api.MaxText)), api.ErrSize},
	{num(api.MaxInt + 1), api.ErrRange},
	{num(-api.MaxInt - 1), api.ErrRange},
	{num(math.MaxInt), api.ErrRange},
	{num(math.MinInt), api.ErrRange},
}

// TestValues: P15.1: values that may not be, the first one, a later one, and the first of two.
func TestValues(t *testing.T) {
	for _, a := range badValues {
		wantRefused(t, insert(0, 1, a.v), a.want)
		for place := range api.MaxFields {
			l := slices.Repeat([]api.Value{num(api.MaxInt), text(longest)}, api.MaxFields)[:api.MaxFields]
			l[place] = a.v
			wantRefused(t, insert(0, 1, l...), a.want)
			wantRefused(t, insert(0, 1, l[:place+1]...), a.want)
		}
		for _, b := range badValues {
			wantRefused(t, insert(0, 1, a.v, b.v), a.want)
			wantRefused(t, insert(0, 1, num(1), a.v, text(""), b.v), a.want)
		}
	}
}

// TestNames: P15.1: the Type of an Insert and of a Query; not of an Advance, which has none.
func TestNames(t *testing.T) {
	for _, c := range []struct {
		name string
		want api.Errno
	}{
		{"a", api.OK},
		{"z", api.OK},
		{"a0z9", api.OK},
		{"type", api.OK},
		{"abcdefghij", api.OK},
		{"", api.ErrSize},
		{"abcdefghijk", api.ErrSize},
		{"ABCDEFGHIJK", api.ErrSize},
		{strings.Repeat("a", 256), api.ErrSize},
		{strings.Repeat("a", 257), api.ErrSize},
		{"0", api.ErrForm},
		{"9a", api.ErrForm},
		{"A", api.ErrForm},
		{"aB", api.ErrForm},
		{"a b", api.ErrForm},
		{"a\n", api.ErrForm},
		{"é", api.ErrForm},
		{"a\xff", api.ErrForm},
		{"\x00", api.ErrForm},
	} {
		for _, o := range []api.Operation{query(c.name), insert(0, 0), insert(3, 4, num(1), text("b"))} {
			o.Type = c.name
			if c.want == api.OK {
				wantFine(t, o)
			} else {
				wantRefused(t, o, c.want)
			}
		}
	}
	wantFine(t, step(0))
}

// wrong thing of an Insert.
type wrong struct {
	make func(o *api.Operation)
	want api.Errno
}

// wrongs of an Insert, in the order in which they are asked.
func wrongs() []wrong {
	return []wrong{
		{func(o *api.Operation) { o.Delta = -1 }, api.ErrForm},
		{func(o *api.Operation) { o.Span.Start = -1 }, api.ErrRange},
		{func(o *api.Operation) { o.Span.Start = max(o.Span.Start, 0); o.Span.End = -1 }, api.ErrRange},
		{func(o *api.Operation) { o.Values = append(o.Values, num(5)) }, api.ErrSize},
		{func(o *api.Operation) { o.Values[0] = api.Value{Kind: 3} }, api.ErrKind},
		{func(o *api.Operation) { o.Values[2] = num(math.MaxInt) }, api.ErrRange},
		{func(o *api.Operation) { o.Type = "A" }, api.ErrForm},
	}
}

// TestOrder: P15.1: of all wrong things of an Insert the first one is told, for each choice of them.
func TestOrder(t *testing.T) {
	all := wrongs()
	for set := 1; set < 1<<len(all); set++ {
		o, want := insert(3, 4, num(1), num(2), num(3), num(4)), api.OK
		for i, w := range all {
			if set>>i&1 == 0 {
				continue
			}
			w.make(&o)
			if want == api.OK {
				want = w.want
			}
		}
		wantRefused(t, o, want)
	}
	// A span that ends too early is told in the same place.
	for _, w := range all[3:] {
		o := insert(4, 3, num(1), num(2), num(3), num(4))
		w.make(&o)
		wantRefused(t, o, api.ErrOrder)
	}
	// A value ahead of the name, where each error is also the other one's.
	o := insert(0, 0, num(1), text(strings.Repeat("a", 21)))
	o.Type = "A"
	wantRefused(t, o, api.ErrSize)
	o = insert(0, 0, api.Value{Kind: api.Int, Text: "a"})
	o.Type = ""
	wantRefused(t, o, api.ErrForm)
}
