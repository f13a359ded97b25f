package tape

import (
	"math"
	"strings"
	"testing"

	"dotterel/api"
	"dotterel/wire"
)

func num(n int) api.Value { return api.Value{Kind: api.Int, Int: n} }

func text(s string) api.Value { return api.Value{Kind: api.Text, Text: s} }

// insert an event of the type a from a Start to an End.
func insert(start, end int, values ...api.Value) api.Operation {
	return api.Operation{Kind: api.Insert, Type: "a", Span: api.Span{Start: start, End: end}, Values: values}
}

func step(delta int) api.Operation { return api.Operation{Kind: api.Advance, Delta: delta} }

func collect(delta int) api.Operation {
	return api.Operation{Kind: api.Advance, Delta: delta, Collect: true}
}

func query(kind string) api.Operation { return api.Operation{Kind: api.Query, Type: kind} }

func do(o api.Operation) api.Act { return api.Act{Kind: api.Do, Operation: o} }

func swap(source string) api.Act { return api.Act{Kind: api.Swap, Source: source} }

// letters: a text of so many bytes.
func letters(n int) string { return strings.Repeat("x", n) }

// greatest operation: the most bytes that one can have.
func greatest() api.Operation {
	long := text(strings.Repeat("\xff", api.MaxText))
	o := insert(api.MaxTime, api.MaxTime, long, long, long, long)
	o.Type = "abcdefghij"
	return o
}

// parts of an Operation: each one alone.
var parts = map[string]api.Operation{
	"Kind 1":       {Kind: api.Insert},
	"Kind 2":       {Kind: api.Advance},
	"Kind 3":       {Kind: api.Query},
	"no Kind":      {Kind: 9},
	"Kind below 0": {Kind: -1},
	"Type":         {Type: "a"},
	"odd Type":     {Type: "A"},
	"Start":        {Span: api.Span{Start: 1}},
	"low Start":    {Span: api.Span{Start: -1}},
	"End":          {Span: api.Span{End: 1}},
	"Values":       {Values: []api.Value{num(1)}},
	"empty Value":  {Values: []api.Value{{}}},
	"Delta":        {Delta: 1},
	"low Delta":    {Delta: math.MinInt},
	"Collect":      {Collect: true},
}

// wantRefused: an act that Check and Append refuse alike, also where there is no room for it, without a tape.
func wantRefused(t *testing.T, a api.Act, want api.Errno) {
	t.Helper()
	if e := Check(a); e != want {
		t.Errorf("Check(%+v): %v, want %v", a, e, want)
	}
	for _, n := range []int{0, 5, api.MaxTape - 2, api.MaxTape} {
		x, e := Append(api.Tape{Data: make([]byte, n), Synced: n / 2}, a)
		if e != want || len(x.Data) > 0 || x.Synced != 0 {
			t.Errorf("Append to %d bytes: %+v: %+v, %v; want %v", n, a, x, e, want)
		}
	}
}

// wantFine: an act that may be on a tape.
func wantFine(t *testing.T, a api.Act) {
	t.Helper()
	if e := Check(a); e != api.OK {
		t.Errorf("Check(%+v): %v", a, e)
	}
}

// TestFine: P16.2: Dos of every Kind of operation, and Swaps up to the longest Source.
func TestFine(t *testing.T) {
	for _, o := range []api.Operation{
		insert(0, 0), insert(1, 2, num(-2), text("x")), greatest(), {Kind: api.Insert, Type: "a", Values: []api.Value{}},
		step(0), step(3), collect(0), collect(api.MaxTime), {Kind: api.Advance, Values: []api.Value{}},
		query("a"), query("abcdefghij"), query("type"),
	} {
		wantFine(t, do(o))
	}
	for _, n := range []int{0, 1, 254, 255, 256, api.MaxSource - 1, api.MaxSource} {
		wantFine(t, swap(letters(n)))
	}
	// A Source is whatever text.
	for _, s := range []string{"type a { }", "\x00", "\xff\xfe", "é", "\n"} {
		wantFine(t, swap(s))
	}
	// A list without elements is empty, nil or not.
	wantFine(t, api.Act{Kind: api.Swap, Operation: api.Operation{Values: []api.Value{}}, Source: "x"})
	wantFine(t, api.Act{Kind: api.Swap, Operation: api.Operation{Values: make([]api.Value, 0, 3)}})
}

// TestKinds: P16.2: acts that are neither, with nothing, with what may be, and with all that may not.
func TestKinds(t *testing.T) {
	for _, kind := range []int{0, api.Sync, api.Crash, 5, -1, 255, 256 + api.Do, 1<<32 + api.Do, 1<<32 + api.Swap, math.MinInt, math.MaxInt} {
		for _, a := range []api.Act{
			{}, do(insert(0, 1, num(3))), do(step(1)), do(query("a")), swap("x"), {Pick: 3},
			{Operation: insert(-1, -2), Pick: -1, Source: letters(api.MaxSource + 1)},
		} {
			a.Kind = kind
			wantRefused(t, a, api.ErrKind)
		}
	}
}

// TestBareDo: P16.2: a Do with a Pick or a Source, or both, ahead of what wire refuses.
func TestBareDo(t *testing.T) {
	for _, o := range []api.Operation{insert(0, 1, num(3)), step(1), query("a"), {}, {Kind: 9}, insert(-1, 0), step(-1), query("")} {
		for _, pick := range []int{1, -1, math.MinInt, math.MaxInt} {
			wantRefused(t, api.Act{Kind: api.Do, Operation: o, Pick: pick}, api.ErrForm)
			wantRefused(t, api.Act{Kind: api.Do, Operation: o, Pick: pick, Source: "x"}, api.ErrForm)
		}
		for _, s := range []string{"x", "\x00", letters(api.MaxSource), letters(api.MaxSource + 1)} {
			wantRefused(t, api.Act{Kind: api.Do, Operation: o, Source: s}, api.ErrForm)
		}
	}
}

// TestBareSwap: P16.2: a Swap with a Pick, or with each part of an Operation, ahead of too long a Source.
func TestBareSwap(t *testing.T) {
	for _, s := range []string{"", "x", letters(api.MaxSource), letters(api.MaxSource + 1)} {
		for _, pick := range []int{1, -1, math.MinInt, math.MaxInt} {
			wantRefused(t, api.Act{Kind: api.Swap, Pick: pick, Source: s}, api.ErrForm)
		}
		for name, o := range parts {
			a := api.Act{Kind: api.Swap, Operation: o, Source: s}
			if e := Check(a); e != api.ErrForm {
				t.Errorf("a Swap with a part, %s: %v", name, e)
			}
			wantRefused(t, a, api.ErrForm)
			a.Pick = 1
			wantRefused(t, a, api.ErrForm)
		}
		wantRefused(t, api.Act{Kind: api.Swap, Operation: greatest(), Source: s}, api.ErrForm)
	}
}

// TestSource: P16.2: one byte more than MaxSource, and many more.
func TestSource(t *testing.T) {
	for _, n := range []int{api.MaxSource + 1, api.MaxSource + 2, 1<<16 - 1, 1 << 16, 1<<16 + 5, 1 << 20} {
		wantRefused(t, swap(letters(n)), api.ErrSize)
		wantRefused(t, swap(strings.Repeat("\x00", n)), api.ErrSize)
	}
}

// TestOperations: P16.2: operations that wire's Check refuses, of each Kind, with its errors in its order.
func TestOperations(t *testing.T) {
	long := text(letters(api.MaxText + 1))
	named := func(o api.Operation, s string) api.Operation {
		o.Type = s
		return o
	}
	for _, c := range []struct {
		o    api.Operation
		want api.Errno
	}{
		{api.Operation{}, api.ErrKind},
		{api.Operation{Type: "a"}, api.ErrKind},
		{api.Operation{Kind: 4}, api.ErrKind},
		{api.Operation{Kind: -1, Delta: -1}, api.ErrKind},
		{api.Operation{Kind: api.Insert, Type: "a", Delta: 1}, api.ErrForm},
		{api.Operation{Kind: api.Insert, Type: "a", Collect: true}, api.ErrForm},
		{api.Operation{Kind: api.Advance, Type: "a"}, api.ErrForm},
		{api.Operation{Kind: api.Advance, Values: []api.Value{num(1)}}, api.ErrForm},
		{api.Operation{Kind: api.Query, Type: "a", Collect: true}, api.ErrForm},
		{api.Operation{Kind: api.Query, Type: "a", Span: api.Span{End: 1}}, api.ErrForm},
		{step(-1), api.ErrRange},
		{collect(api.MaxTime + 1), api.ErrRange},
		{insert(-1, 0), api.ErrRange},
		{insert(0, api.MaxTime+1), api.ErrRange},
		{insert(2, 1), api.ErrOrder},
		{insert(0, 0, num(1), num(1), num(1), num(1), num(1)), api.ErrSize},
		{insert(0, 0, api.Value{}), api.ErrKind},
		{insert(0, 0, api.Value{Kind: api.Int, Text: "x"}), api.ErrForm},
		{insert(0, 0, num(1), long), api.ErrSize},
		{insert(0, 0, num(api.MaxInt+1), long), api.ErrRange},
		{query(""), api.ErrSize},
		{query("abcdefghijk"), api.ErrSize},
		{query("A"), api.ErrForm},
		{api.Operation{Kind: api.Insert}, api.ErrSize},
		{named(insert(0, 1, num(1)), "0"), api.ErrForm},
		{named(insert(2, 1, long), ""), api.ErrOrder},
		{named(insert(1, 2, api.Value{}), ""), api.ErrKind},
	} {
		if e := wire.Check(c.o); e != c.want {
			t.Errorf("wire's Check(%+v): %v, want %v", c.o, e, c.want)
		}
		wantRefused(t, do(c.o), c.want)
	}
}
