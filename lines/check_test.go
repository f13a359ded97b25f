package lines

import (
	"math"
	"strings"
	"testing"

	"dotterel/api"
	"dotterel/tape"
)

func num(n int) api.Value { return api.Value{Kind: api.Int, Int: n} }

func text(s string) api.Value { return api.Value{Kind: api.Text, Text: s} }

func do(o api.Operation) api.Act { return api.Act{Kind: api.Do, Operation: o} }

// insert an event of the type a from a Start to an End.
func insert(start, end int, values ...api.Value) api.Operation {
	return api.Operation{Kind: api.Insert, Type: "a", Span: api.Span{Start: start, End: end}, Values: values}
}

func step(delta int) api.Operation { return api.Operation{Kind: api.Advance, Delta: delta} }

func collect(delta int) api.Operation {
	return api.Operation{Kind: api.Advance, Delta: delta, Collect: true}
}

func query(kind string) api.Operation { return api.Operation{Kind: api.Query, Type: kind} }

func synced() api.Act { return api.Act{Kind: api.Sync} }

func crash(pick int) api.Act { return api.Act{Kind: api.Crash, Pick: pick} }

func swap(source string) api.Act { return api.Act{Kind: api.Swap, Source: source} }

// letters: a text of so many bytes.
func letters(n int) string { return strings.Repeat("x", n) }

// parts of an Operation: each one alone.
var parts = map[string]api.Operation{
	"Kind 1":       {Kind: api.Insert},
	"Kind 2":       {Kind: api.Advance},
	"Kind 3":       {Kind: api.Query},
	"no Kind":      {Kind: 9},
	"Kind below 0": {Kind: -1},
	"Type":         {Type: "a"},
	"odd Type":     {Type: "A"},
	"Start":        {Span: api.Span{Start: 1}},
	"low Start":    {Span: api.Span{Start: -1}},
	"End":          {Span: api.Span{End: 1}},
	"Values":       {Values: []api.Value{num(1)}},
	"empty Value":  {Values: []api.Value{{}}},
	"Delta":        {Delta: 1},
	"low Delta":    {Delta: math.MinInt},
	"Collect":      {Collect: true},
	"all":          {Kind: api.Insert, Type: "a", Span: api.Span{Start: 1, End: 2}, Values: []api.Value{num(1)}, Delta: 3, Collect: true},
}

// wantRefused: an act that Check refuses, and Show, wherever it stands, without a text.
func wantRefused(t *testing.T, a api.Act, want api.Errno) {
	t.Helper()
	if e := Check(a); e != want {
		t.Errorf("Check(%+v): %v, want %v", a, e, want)
	}
	for place := range 4 {
		l := []api.Act{synced(), do(step(1)), swap("x"), crash(9), synced(), {}}
		l[place] = a
		if s, at, e := Show(l); s != "" || at != place || e != want {
			t.Errorf("Show of %+v at %d: %q, %d, %v; want %v", a, place, s, at, e, want)
		}
	}
}

// wantFine: an act that may be.
func wantFine(t *testing.T, a api.Act) {
	t.Helper()
	if e := Check(a); e != api.OK {
		t.Errorf("Check(%+v): %v", a, e)
	}
}

// TestFine: P17.1: acts of every Kind, with the edges of a Pick, and of a Source.
func TestFine(t *testing.T) {
	for _, a := range []api.Act{
		synced(), crash(0), crash(1), crash(api.MaxTape - 1), crash(api.MaxTape),
		do(insert(0, 0)), do(insert(1, 2, num(-2), text("x"))), do(step(0)), do(collect(api.MaxTime)), do(query("a")),
		swap(""), swap("x"), swap(letters(api.MaxSource)),
	} {
		wantFine(t, a)
	}
	// A list without elements is empty, nil or not.
	for _, kind := range []int{api.Sync, api.Crash, api.Swap} {
		wantFine(t, api.Act{Kind: kind, Operation: api.Operation{Values: []api.Value{}}})
		wantFine(t, api.Act{Kind: kind, Operation: api.Operation{Values: make([]api.Value, 0, 3)}})
	}
}

// TestKinds: P17.1: Kinds that there are not, with nothing else, with what may be, and with all that may not.
func TestKinds(t *testing.T) {
	for _, kind := range []int{0, -1, -api.Sync, 5, 6, 256 + api.Sync, 1<<32 + api.Do, 1<<32 + api.Sync, 1<<32 + api.Crash, math.MinInt, math.MaxInt} {
		for _, a := range []api.Act{
			{}, do(insert(0, 1, num(3))), do(query("a")), swap("x"), crash(3), crash(-1), crash(api.MaxTape + 1),
			{Operation: insert(-1, -2), Pick: -1, Source: letters(api.MaxSource + 1)},
		} {
			a.Kind = kind
			wantRefused(t, a, api.ErrKind)
		}
	}
}

// TestTape: P17.1: a Do and a Swap that tape's Check refuses, with each of its errors.
func TestTape(t *testing.T) {
	long := letters(api.MaxSource + 1)
	for _, c := range []struct {
		a    api.Act
		want api.Errno
	}{
		{api.Act{Kind: api.Do, Operation: step(1), Pick: 1}, api.ErrForm},
		{api.Act{Kind: api.Do, Operation: step(1), Pick: -1}, api.ErrForm},
		{api.Act{Kind: api.Do, Operation: step(1), Pick: api.MaxTape + 1}, api.ErrForm},
		{api.Act{Kind: api.Do, Operation: step(-1), Source: "x"}, api.ErrForm},
		{do(api.Operation{}), api.ErrKind},
		{do(api.Operation{Kind: 4}), api.ErrKind},
		{do(api.Operation{Kind: api.Advance, Type: "a"}), api.ErrForm},
		{do(api.Operation{Kind: api.Query, Type: "a", Collect: true}), api.ErrForm},
		{do(step(-1)), api.ErrRange},
		{do(collect(api.MaxTime + 1)), api.ErrRange},
		{do(insert(-1, 0)), api.ErrRange},
		{do(insert(2, 1)), api.ErrOrder},
		{do(insert(0, 0, num(1), num(1), num(1), num(1), num(1))), api.ErrSize},
		{do(insert(0, 0, api.Value{})), api.ErrKind},
		{do(insert(0, 0, api.Value{Kind: api.Int, Text: "x"})), api.ErrForm},
		{do(insert(0, 0, text(letters(api.MaxText+1)))), api.ErrSize},
		{do(insert(0, 0, num(api.MaxInt+1))), api.ErrRange},
		{do(query("")), api.ErrSize},
		{do(query("A")), api.ErrForm},
		{swap(long), api.ErrSize},
		{api.Act{Kind: api.Swap, Pick: 1, Source: long}, api.ErrForm},
		{api.Act{Kind: api.Swap, Pick: -1, Source: "x"}, api.ErrForm},
	} {
		if e := tape.Check(c.a); e != c.want {
			t.Errorf("tape's Check(%+v): %v, want %v", c.a, e, c.want)
		}
		wantRefused(t, c.a, c.want)
	}
	for name, o := range parts {
		a := api.Act{Kind: api.Swap, Operation: o, Source: long}
		if e := Check(a); e != api.ErrForm {
			t.Errorf("a Swap with a part, %s: %v", name, e)
		}
	}
}

// TestBare: P17.1: a Sync and a Crash with a Source, or with each part of an Operation, alone, ahead of a Pick that may not be; and a Sync with a Pick.
func TestBare(t *testing.T) {
	picks := []int{0, 1, -1, api.MaxTape, api.MaxTape + 1, math.MinInt, math.MaxInt}
	for _, kind := range []int{api.Sync, api.Crash} {
		for _, pick := range picks {
			for _, s := range []string{"x", "\x00", letters(api.MaxSource), letters(api.MaxSource + 1)} {
				wantRefused(t, api.Act{Kind: kind, Pick: pick, Source: s}, api.ErrForm)
			}
			for name, o := range parts {
				a := api.Act{Kind: kind, Pick: pick, Operation: o}
				if e := Check(a); e != api.ErrForm {
					t.Errorf("Kind %d with a Pick of %d and a part, %s: %v", kind, pick, name, e)
				}
				wantRefused(t, a, api.ErrForm)
				a.Source = "x"
				wantRefused(t, a, api.ErrForm)
			}
		}
	}
	for _, pick := range picks[1:] {
		wantRefused(t, api.Act{Kind: api.Sync, Pick: pick}, api.ErrForm)
	}
}

// TestPick: P17.1: a Crash with a Pick that is not from 0 to MaxTape.
func TestPick(t *testing.T) {
	for _, pick := range []int{-1, -2, -api.MaxTape, math.MinInt, api.MaxTape + 1, api.MaxTape + 2, 1 << 32, 1<<32 + 3, math.MaxInt} {
		wantRefused(t, crash(pick), api.ErrRange)
	}
}
