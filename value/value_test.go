package value

import (
	"math"
	"math/rand"
	"slices"
	"strings"
	"testing"

	"dotterel/api"
)

// number and text: values written short.
func number(n int) api.Value  { return api.Value{Kind: api.Int, Int: n} }
func text(s string) api.Value { return api.Value{Kind: api.Text, Text: s} }

// typeOf: a type with fields of these kinds, which are named a, b, and so on.
func typeOf(kinds ...int) api.Type {
	t := api.Type{Name: "t"}
	for i, k := range kinds {
		t.Fields = append(t.Fields, api.Field{Name: string([]byte{byte('a' + i)}), Kind: k})
	}
	return t
}

// long: a text of so many bytes.
func long(n int) string { return strings.Repeat("a", n) }

// values that Check refuses, each with what it refuses.
var refused = []struct {
	v    api.Value
	want api.Errno
}{
	{api.Value{}, api.ErrKind},
	{api.Value{Kind: -1}, api.ErrKind},
	{api.Value{Kind: 3}, api.ErrKind},
	{api.Value{Kind: math.MinInt}, api.ErrKind},
	{api.Value{Kind: math.MaxInt}, api.ErrKind},
	{api.Value{Kind: api.Int, Text: "a"}, api.ErrForm},
	{api.Value{Kind: api.Int, Int: 1, Text: "\x00"}, api.ErrForm},
	{api.Value{Kind: api.Text, Int: 1}, api.ErrForm},
	{api.Value{Kind: api.Text, Int: -1, Text: "a"}, api.ErrForm},
	{text(long(api.MaxText + 1)), api.ErrSize},
	{text(long(3000)), api.ErrSize},
	{text(strings.Repeat("é", api.MaxText/2+1)), api.ErrSize},
	{number(api.MaxInt + 1), api.ErrRange},
	{number(-api.MaxInt - 1), api.ErrRange},
	{number(math.MaxInt), api.ErrRange},
	{number(math.MinInt), api.ErrRange},
	// Where several apply, the one that is named first.
	{api.Value{Kind: 3, Int: math.MaxInt, Text: long(api.MaxText + 1)}, api.ErrKind},
	{api.Value{Kind: api.Int, Int: math.MaxInt, Text: "a"}, api.ErrForm},
	{api.Value{Kind: api.Int, Text: long(api.MaxText + 1)}, api.ErrForm},
	{api.Value{Kind: api.Text, Int: math.MinInt, Text: "a"}, api.ErrForm},
	{api.Value{Kind: api.Text, Int: 1, Text: long(api.MaxText + 1)}, api.ErrForm},
}

// sorted: values that may be, each kind's ones from the least to the greatest.
var sorted = [][]api.Value{
	{
		number(-api.MaxInt), number(-api.MaxInt + 1), number(-10), number(-9), number(-1), number(0), number(1), number(9), number(10),
		number(api.MaxInt - 1), number(api.MaxInt),
	},
	{
		text(""), text("\x00"), text("\x00\x00"), text("\x00a"), text(" "), text("1"), text("10"), text("9"), text("A"), text("Z"),
		text("a"), text("a\x00"), text("aa"), text(long(api.MaxText - 1)), text(long(api.MaxText)), text(long(api.MaxText-1) + "b"),
		text("ab"), text("b"), text("z"), text("\x7f"), text("\x80"), text("\xc3"), text("é"), text("éa"), text("\xe0"), text("世"),
		text("\xef\xbf\xbd"), text("𐍈"), text("\xff"), text("\xffa"), text("\xff\xff"),
	},
}

// names that may be, and texts that may not, each with what is refused.
var names = []struct {
	s    string
	want api.Errno
}{
	{"a", api.OK},
	{"z", api.OK},
	{"a0", api.OK},
	{"z9", api.OK},
	{"m5n", api.OK},
	{"rule", api.OK},
	{"abcdefghij", api.OK},
	{"a123456789", api.OK},
	{"", api.ErrSize},
	{"abcdefghijk", api.ErrSize},
	{"0", api.ErrForm},
	{"9", api.ErrForm},
	{"1a", api.ErrForm},
	{"5abcdefghi", api.ErrForm},
	{"A", api.ErrForm},
	{"aB", api.ErrForm},
	{"Za", api.ErrForm},
	{"a_b", api.ErrForm},
	{"a b", api.ErrForm},
	{" a", api.ErrForm},
	{"a ", api.ErrForm},
	{"a\n", api.ErrForm},
	{"a-", api.ErrForm},
	{"a.b", api.ErrForm},
	{"abcdefghi!", api.ErrForm},
	{"é", api.ErrForm},
	{"aé", api.ErrForm},
	{"a\x80", api.ErrForm},
	{"\xff", api.ErrForm},
	{"a\x00", api.ErrForm},
	{"ａ", api.ErrForm},
	{"a٣", api.ErrForm},
	// Too long and out of form: the size is named first.
	{"1bcdefghijk", api.ErrSize},
	{"ABCDEFGHIJK", api.ErrSize},
	{"éééééé", api.ErrSize},
}

// TestCheck: P4.1, values that may be.
func TestCheck(t *testing.T) {
	for _, l := range sorted {
		for _, v := range l {
			if e := Check(v); e != api.OK {
				t.Errorf("Check(%+v): %v, want OK", v, e)
			}
		}
	}
}

// TestCheckRefused: P4.1, values that may not be, and which error is told.
func TestCheckRefused(t *testing.T) {
	for _, c := range refused {
		if e := Check(c.v); e != c.want {
			t.Errorf("Check(%+v): %v, want %v", c.v, e, c.want)
		}
	}
}

// TestCompare: P4.2, each value against each other one of its kind, both ways round.
func TestCompare(t *testing.T) {
	for _, l := range sorted {
		for i, a := range l {
			for j, b := range l {
				want := 0
				if i < j {
					want = -1
				} else if i > j {
					want = 1
				}
				if n, e := Compare(a, b); n != want || e != api.OK {
					t.Errorf("Compare(%+v, %+v): %d, %v, want %d", a, b, n, e, want)
				}
			}
		}
	}
}

// TestCompareKinds: P4.2, values of two kinds.
func TestCompareKinds(t *testing.T) {
	for _, a := range sorted[0] {
		for _, b := range sorted[1] {
			if n, e := Compare(a, b); n != 0 || e != api.ErrType {
				t.Errorf("Compare(%+v, %+v): %d, %v", a, b, n, e)
			}
			if n, e := Compare(b, a); n != 0 || e != api.ErrType {
				t.Errorf("Compare(%+v, %+v): %d, %v", b, a, n, e)
			}
		}
	}
}

// TestCompareRefused: P4.2, what Check refuses of the first one goes ahead of what it refuses of the other one, and both ahead of ErrType.
func TestCompareRefused(t *testing.T) {
	for _, c := range refused {
		for _, good := range []api.Value{number(1), text("a")} {
			if n, e := Compare(c.v, good); n != 0 || e != c.want {
				t.Errorf("Compare(%+v, %+v): %d, %v, want %v", c.v, good, n, e, c.want)
			}
			if n, e := Compare(good, c.v); n != 0 || e != c.want {
				t.Errorf("Compare(%+v, %+v): %d, %v, want %v", good, c.v, n, e, c.want)
			}
		}
		for _, other := range refused {
			if n, e := Compare(c.v, other.v); n != 0 || e != c.want {
				t.Errorf("Compare(%+v, %+v): %d, %v, want %v", c.v, other.v, n, e, c.want)
			}
		}
	}
}

// TestName: P4.3, texts that may be names, and texts that may not.
func TestName(t *testing.T) {
	for _, c := range names {
		if e := Name(c.s); e != c.want {
			t.Errorf("Name(%q): %v, want %v", c.s, e, c.want)
		}
	}
}

// TestNameBytes: P4.3, each byte that there is, as a name's first one, its middle one and its last one.
func TestNameBytes(t *testing.T) {
	const letters, digits = "abcdefghijklmnopqrstuvwxyz", "0123456789"
	for c := range 256 {
		one := string([]byte{byte(c)})
		for _, x := range []struct{ s, may string }{
			{one, letters},
			{one + "a", letters},
			{"a" + one + "a", letters + digits},
			{"a" + one, letters + digits},
		} {
			want := api.ErrForm
			if strings.Contains(x.may, one) {
				want = api.OK
			}
			if e := Name(x.s); e != want {
				t.Errorf("Name(%q): %v, want %v", x.s, e, want)
			}
		}
	}
}

// badTypes: types that CheckType refuses, each with what it refuses.
var badTypes = []struct {
	t    api.Type
	want api.Errno
}{
	{api.Type{}, api.ErrSize},
	{api.Type{Name: "abcdefghijk"}, api.ErrSize},
	{api.Type{Name: "T"}, api.ErrForm},
	{api.Type{Name: "1t"}, api.ErrForm},
	{typeOf(1, 2, 1, 2, 1), api.ErrSize},
	{api.Type{Name: "t", Fields: make([]api.Field, 100)}, api.ErrSize},
	{api.Type{Name: "t", Fields: []api.Field{{Name: "", Kind: api.Int}}}, api.ErrSize},
	{api.Type{Name: "t", Fields: []api.Field{{Name: "abcdefghijk", Kind: api.Int}}}, api.ErrSize},
	{api.Type{Name: "t", Fields: []api.Field{{Name: "0", Kind: api.Text}}}, api.ErrForm},
	{api.Type{Name: "t", Fields: []api.Field{{Name: "a", Kind: api.Int}, {Name: "a-b", Kind: api.Text}}}, api.ErrForm},
	{typeOf(0), api.ErrKind},
	{typeOf(3), api.ErrKind},
	{typeOf(-1), api.ErrKind},
	{typeOf(1, 2, 1, math.MaxInt), api.ErrKind},
	{typeOf(1, math.MinInt), api.ErrKind},
	{api.Type{Name: "t", Fields: []api.Field{{Name: "a", Kind: api.Int}, {Name: "a", Kind: api.Int}}}, api.ErrTwice},
	{api.Type{Name: "t", Fields: []api.Field{{Name: "a", Kind: api.Int}, {Name: "a", Kind: api.Text}}}, api.ErrTwice},
	{api.Type{Name: "t", Fields: []api.Field{{Name: "a", Kind: 1}, {Name: "b", Kind: 1}, {Name: "c", Kind: 1}, {Name: "a", Kind: 1}}}, api.ErrTwice},
	{api.Type{Name: "t", Fields: []api.Field{{Name: "a", Kind: 1}, {Name: "b", Kind: 1}, {Name: "b", Kind: 1}}}, api.ErrTwice},
	// Where several apply: the type's name, the number of fields, and then field by field its name, its kind, and whether it is there twice.
	{api.Type{Name: "T", Fields: make([]api.Field, 5)}, api.ErrForm},
	{api.Type{Name: "T", Fields: []api.Field{{Name: "a"}}}, api.ErrForm},
	{api.Type{Name: "", Fields: []api.Field{{Name: "A"}}}, api.ErrSize},
	{api.Type{Name: "t", Fields: []api.Field{{Name: "A"}, {Name: "A"}, {Name: "A"}, {Name: "A"}, {Name: "A"}}}, api.ErrSize},
	{api.Type{Name: "t", Fields: []api.Field{{Name: "a", Kind: 1}, {Name: "a", Kind: 1}, {Name: "b", Kind: 1}, {Name: "c", Kind: 1}, {Name: "d", Kind: 1}}}, api.ErrSize},
	{api.Type{Name: "t", Fields: []api.Field{{Name: "A", Kind: 3}}}, api.ErrForm},
	{api.Type{Name: "t", Fields: []api.Field{{Name: "", Kind: 3}}}, api.ErrSize},
	{api.Type{Name: "t", Fields: []api.Field{{Name: "a", Kind: 1}, {Name: "a", Kind: 3}}}, api.ErrKind},
	{api.Type{Name: "t", Fields: []api.Field{{Name: "a", Kind: 3}, {Name: "B", Kind: 1}}}, api.ErrKind},
	{api.Type{Name: "t", Fields: []api.Field{{Name: "a", Kind: 1}, {Name: "a", Kind: 1}, {Name: "c", Kind: 3}}}, api.ErrTwice},
	{api.Type{Name: "t", Fields: []api.Field{{Name: "a", Kind: 1}, {Name: "a", Kind: 1}, {Name: "C", Kind: 1}}}, api.ErrTwice},
}

// goodTypes: types that may be.
var goodTypes = []api.Type{
	{Name: "t"},
	{Name: "t", Fields: []api.Field{}},
	{Name: "abcdefghij"},
	typeOf(api.Int),
	typeOf(api.Text),
	typeOf(api.Int, api.Text, api.Text, api.Int),
	{Name: "t", Fields: []api.Field{{Name: "t", Kind: api.Int}}},
	{Name: "t", Fields: []api.Field{{Name: "abcdefghij", Kind: api.Int}, {Name: "abcdefghi", Kind: api.Int}, {Name: "a", Kind: api.Text}}},
}

// TestCheckType: P4.4, types that may be, and types that may not.
func TestCheckType(t *testing.T) {
	for _, x := range goodTypes {
		if e := CheckType(x); e != api.OK {
			t.Errorf("CheckType(%v): %v, want OK", x, e)
		}
	}
	for _, c := range badTypes {
		if e := CheckType(c.t); e != c.want {
			t.Errorf("CheckType(%v): %v, want %v", c.t, e, c.want)
		}
	}
}

// TestCheckTypeNames: P4.4, what Name refuses of a type's name and of a field's name.
func TestCheckTypeNames(t *testing.T) {
	for _, c := range names {
		if e := CheckType(api.Type{Name: c.s}); e != c.want {
			t.Errorf("a type %q: %v, want %v", c.s, e, c.want)
		}
		for place := range api.MaxFields {
			x := typeOf(api.Int, api.Text, api.Int, api.Text)
			for i := range x.Fields {
				x.Fields[i].Name = "field" + x.Fields[i].Name
			}
			x.Fields[place].Name = c.s
			if e := CheckType(x); e != c.want {
				t.Errorf("field %d %q: %v, want %v", place, c.s, e, c.want)
			}
		}
	}
}

// fits: values for types, each with what Fit answers.
var fits = []struct {
	t    api.Type
	l    []api.Value
	want api.Errno
}{
	{typeOf(), nil, api.OK},
	{typeOf(), []api.Value{}, api.OK},
	{typeOf(api.Int), []api.Value{number(3)}, api.OK},
	{typeOf(api.Text), []api.Value{text("")}, api.OK},
	{typeOf(api.Int, api.Text, api.Text, api.Int), []api.Value{number(-api.MaxInt), text(long(api.MaxText)), text(""), number(api.MaxInt)}, api.OK},
	// Too few and too many.
	{typeOf(), []api.Value{number(1)}, api.ErrType},
	{typeOf(api.Int), nil, api.ErrType},
	{typeOf(api.Int), []api.Value{number(1), number(1)}, api.ErrType},
	{typeOf(1, 1, 1, 1), []api.Value{number(1), number(1), number(1)}, api.ErrType},
	{typeOf(1, 1, 1, 1), []api.Value{number(1), number(1), number(1), number(1), number(1)}, api.ErrType},
	// Of the other kind.
	{typeOf(api.Int), []api.Value{text("1")}, api.ErrType},
	{typeOf(api.Text), []api.Value{number(0)}, api.ErrType},
	{typeOf(api.Int, api.Text), []api.Value{text("a"), number(1)}, api.ErrType},
	{typeOf(api.Text, api.Text, api.Text, api.Int), []api.Value{text("a"), text("b"), text("c"), text("d")}, api.ErrType},
	// A value that may not be goes ahead of too few, too many, and one ahead of it of the other kind.
	{typeOf(api.Int, api.Int), []api.Value{number(math.MaxInt)}, api.ErrRange},
	{typeOf(), []api.Value{number(1), {}}, api.ErrKind},
	{typeOf(api.Int), []api.Value{number(1), text(long(21))}, api.ErrSize},
	{typeOf(api.Int, api.Int), []api.Value{text("a"), {Kind: api.Int, Text: "a"}}, api.ErrForm},
	{typeOf(api.Int), []api.Value{text(long(21))}, api.ErrSize},
	// The first value that may not be is told.
	{typeOf(api.Int, api.Int), []api.Value{number(math.MaxInt), {}}, api.ErrRange},
	{typeOf(api.Int, api.Int), []api.Value{{}, number(math.MaxInt)}, api.ErrKind},
	{typeOf(api.Text, api.Int), []api.Value{text(long(21)), {Kind: api.Int, Text: "a"}}, api.ErrSize},
}

// TestFit: P4.5, values that are of a type, and values that are not.
func TestFit(t *testing.T) {
	for _, c := range fits {
		if e := Fit(c.t, c.l); e != c.want {
			t.Errorf("Fit(%v, %+v): %v, want %v", c.t, c.l, e, c.want)
		}
	}
}

// TestFitRefused: P4.5, what CheckType refuses goes ahead of what Check refuses, and each value that Check refuses is told at each place.
func TestFitRefused(t *testing.T) {
	for _, c := range badTypes {
		for _, l := range [][]api.Value{nil, {number(1)}, {{}}, {number(math.MaxInt)}} {
			if e := Fit(c.t, l); e != c.want {
				t.Errorf("Fit(%v, %+v): %v, want %v", c.t, l, e, c.want)
			}
		}
	}
	for _, c := range refused {
		for place := range api.MaxFields {
			l := []api.Value{number(1), number(1), number(1), number(1)}
			l[place] = c.v
			if e := Fit(typeOf(1, 1, 1, 1), l); e != c.want {
				t.Errorf("Fit with %+v at %d: %v, want %v", c.v, place, e, c.want)
			}
		}
	}
}

// TestField: P4.6, each field's place and kind, and fields that there are not.
func TestField(t *testing.T) {
	x := typeOf(api.Text, api.Int, api.Int, api.Text)
	for i, f := range x.Fields {
		if place, kind, e := Field(x, f.Name); place != i || kind != f.Kind || e != api.OK {
			t.Errorf("Field(%q): %d, %d, %v", f.Name, place, kind, e)
		}
	}
	for _, name := range []string{"", "e", "t", "aa", "A", "a ", "1", long(100)} {
		if place, kind, e := Field(x, name); place != 0 || kind != 0 || e != api.ErrNone {
			t.Errorf("Field(%q): %d, %d, %v", name, place, kind, e)
		}
	}
	if place, kind, e := Field(typeOf(), "a"); place != 0 || kind != 0 || e != api.ErrNone {
		t.Errorf("Field of a type without fields: %d, %d, %v", place, kind, e)
	}
}

// TestFieldRefused: P4.6, what CheckType refuses, whether there is such a field or not.
func TestFieldRefused(t *testing.T) {
	for _, c := range badTypes {
		for _, name := range []string{"", "a", "b", "A", "nosuch"} {
			if place, kind, e := Field(c.t, name); place != 0 || kind != 0 || e != c.want {
				t.Errorf("Field(%v, %q): %d, %d, %v, want %v", c.t, name, place, kind, e, c.want)
			}
		}
	}
}

// three types for events: the first one without fields, the last one with two.
var three = []api.Type{{Name: "a"}, typeOf(api.Int), typeOf(api.Text, api.Int)}

// event of the last of the three types, that may be.
func event() api.Event {
	return api.Event{Number: 7, Type: 2, Span: api.Span{Start: 3, End: 9}, Values: []api.Value{text("x"), number(1)}}
}

// TestCheckEvent: P4.7, events that may be.
func TestCheckEvent(t *testing.T) {
	for _, x := range []api.Event{
		event(),
		{Number: 1, Type: 0},
		{Number: api.MaxCount, Type: 0, Values: []api.Value{}},
		{Number: 1, Type: 1, Span: api.Span{Start: 5, End: 5}, Values: []api.Value{number(0)}},
		{Number: 1, Type: 2, Span: api.Span{End: api.MaxTime}, Values: []api.Value{text(""), number(api.MaxInt)}},
		{Number: 1, Type: 0, Span: api.Span{Start: api.MaxTime, End: api.MaxTime}},
	} {
		if e := CheckEvent(three, x); e != api.OK {
			t.Errorf("CheckEvent(%v): %v, want OK", x, e)
		}
	}
}

// wrongs of an event, in the order in which the document names them: each makes an event wrong in one way.
var wrongs = []struct {
	make func(x *api.Event)
	want api.Errno
}{
	{func(x *api.Event) { x.Number = 0 }, api.ErrRange},
	{func(x *api.Event) { x.Type = 3 }, api.ErrNone},
	{func(x *api.Event) { x.Span = api.Span{Start: -1, End: -2} }, api.ErrRange},
	{func(x *api.Event) { x.Values = []api.Value{{Kind: 3}} }, api.ErrKind},
}

// TestCheckEventRefused: P4.7, events that are wrong in one way.
func TestCheckEventRefused(t *testing.T) {
	for i, c := range []struct {
		make func(x *api.Event)
		want api.Errno
	}{
		{func(x *api.Event) { x.Number = 0 }, api.ErrRange},
		{func(x *api.Event) { x.Number = -1 }, api.ErrRange},
		{func(x *api.Event) { x.Number = math.MinInt }, api.ErrRange},
		{func(x *api.Event) { x.Number = api.MaxCount + 1 }, api.ErrRange},
		{func(x *api.Event) { x.Number = math.MaxInt }, api.ErrRange},
		{func(x *api.Event) { x.Type = -1 }, api.ErrNone},
		{func(x *api.Event) { x.Type = math.MinInt }, api.ErrNone},
		{func(x *api.Event) { x.Type = 3 }, api.ErrNone},
		{func(x *api.Event) { x.Type = math.MaxInt }, api.ErrNone},
		{func(x *api.Event) { x.Span.Start = -1 }, api.ErrRange},
		{func(x *api.Event) { x.Span.End = api.MaxTime + 1 }, api.ErrRange},
		{func(x *api.Event) { x.Span.End = 2 }, api.ErrOrder},
		{func(x *api.Event) { x.Values = nil }, api.ErrType},
		{func(x *api.Event) { x.Values = x.Values[:1] }, api.ErrType},
		{func(x *api.Event) { x.Values = append(x.Values, number(1)) }, api.ErrType},
		{func(x *api.Event) { x.Values[0], x.Values[1] = x.Values[1], x.Values[0] }, api.ErrType},
		{func(x *api.Event) { x.Values[0] = text(long(api.MaxText + 1)) }, api.ErrSize},
		{func(x *api.Event) { x.Values[1] = number(api.MaxInt + 1) }, api.ErrRange},
		{func(x *api.Event) { x.Values[1].Text = "a" }, api.ErrForm},
		{func(x *api.Event) { x.Values[1].Kind = 0 }, api.ErrKind},
		// The values fit another one of the types.
		{func(x *api.Event) { x.Type = 0 }, api.ErrType},
		{func(x *api.Event) { x.Type = 1 }, api.ErrType},
	} {
		x := event()
		c.make(&x)
		if e := CheckEvent(three, x); e != c.want {
			t.Errorf("case %d: CheckEvent(%v): %v, want %v", i, x, e, c.want)
		}
	}
}

// TestCheckEventOrder: P4.7, of all wrongs of an event the first one is told.
func TestCheckEventOrder(t *testing.T) {
	for set := 1; set < 1<<len(wrongs); set++ {
		x, want := event(), api.OK
		for i, w := range wrongs {
			if set>>i&1 == 0 {
				continue
			}
			w.make(&x)
			if want == api.OK {
				want = w.want
			}
		}
		if e := CheckEvent(three, x); e != want {
			t.Errorf("CheckEvent(%v): %v, want %v", x, e, want)
		}
	}
	x := event()
	x.Span, x.Values = api.Span{Start: 2, End: 1}, nil
	if e := CheckEvent(three, x); e != api.ErrOrder {
		t.Errorf("a span that ends too early, without values: %v", e)
	}
}

// TestCheckEventTypes: P4.7, the event's own type is checked, whatever the others are, and no types at all have no place.
func TestCheckEventTypes(t *testing.T) {
	for _, c := range badTypes {
		types := []api.Type{c.t, {Name: "a"}, c.t}
		if e := CheckEvent(types, api.Event{Number: 1, Type: 1}); e != api.OK {
			t.Errorf("beside %v: %v, want OK", c.t, e)
		}
		if e := CheckEvent(types, api.Event{Number: 1, Type: 2}); e != c.want {
			t.Errorf("of %v: %v, want %v", c.t, e, c.want)
		}
		late := api.Event{Number: 1, Span: api.Span{Start: 2, End: 1}}
		if e := CheckEvent(types, late); e != api.ErrOrder {
			t.Errorf("of %v, with a wrong span: %v", c.t, e)
		}
	}
	for _, types := range [][]api.Type{nil, {}} {
		if e := CheckEvent(types, api.Event{Number: 1}); e != api.ErrNone {
			t.Errorf("of no types: %v", e)
		}
		if e := CheckEvent(types, api.Event{}); e != api.ErrRange {
			t.Errorf("of no types, without a number: %v", e)
		}
	}
	many := slices.Repeat([]api.Type{{Name: "a"}}, 100)
	if e := CheckEvent(many, api.Event{Number: 1, Type: 99}); e != api.OK {
		t.Errorf("of the last of many types: %v", e)
	}
}

// first of errors, each behind its flag, that applies.
func first(l ...any) api.Errno {
	for i := 0; i < len(l); i += 2 {
		if l[i].(bool) {
			return l[i+1].(api.Errno)
		}
	}
	return api.OK
}

// slowName, slowCheck, slowType and slowFit: the chapter's words one after another, all asked, with nothing left out on the way.
func slowName(s string) api.Errno {
	other := strings.Trim(s, "abcdefghijklmnopqrstuvwxyz0123456789") != ""
	return first(len(s) == 0 || len(s) > 10, api.ErrSize, other || strings.IndexAny(s, "0123456789") == 0, api.ErrForm)
}

func slowCheck(v api.Value) api.Errno {
	return first(
		v.Kind != 1 && v.Kind != 2, api.ErrKind,
		v.Kind == 1 && len(v.Text) > 0 || v.Kind == 2 && v.Int != 0, api.ErrForm,
		len(v.Text) > 20, api.ErrSize,
		max(v.Int, -v.Int) > 1<<50, api.ErrRange,
	)
}

func slowType(t api.Type) api.Errno {
	all := []api.Errno{slowName(t.Name), first(len(t.Fields) > 4, api.ErrSize)}
	seen := map[string]int{}
	for _, f := range t.Fields {
		all = append(all, slowName(f.Name), first(f.Kind != 1 && f.Kind != 2, api.ErrKind), first(seen[f.Name] > 0, api.ErrTwice))
		seen[f.Name]++
	}
	return firstOf(all)
}

func slowFit(t api.Type, l []api.Value) api.Errno {
	all := []api.Errno{slowType(t)}
	var has, wants []int
	for _, v := range l {
		all, has = append(all, slowCheck(v)), append(has, v.Kind)
	}
	for _, f := range t.Fields {
		wants = append(wants, f.Kind)
	}
	return firstOf(append(all, first(!slices.Equal(has, wants), api.ErrType)))
}

// firstOf a list of errors the first one that is one.
func firstOf(l []api.Errno) api.Errno {
	for _, e := range l {
		if e != api.OK {
			return e
		}
	}
	return api.OK
}

// drawValue, drawName and drawType: mostly what may be, now and then not.
func drawValue(r *rand.Rand) api.Value {
	v := number(r.Intn(7) - 3)
	if r.Intn(2) == 0 {
		v = text(strings.Repeat([]string{"a", "b", "\xe9"}[r.Intn(3)], r.Intn(4)))
	}
	switch r.Intn(20) {
	case 0:
		v.Kind = r.Intn(5) - 1
	case 1:
		v.Int = []int{1 << 50, -1 << 50, 1<<50 + 1, -1<<50 - 1}[r.Intn(4)]
	case 2:
		v.Text = strings.Repeat("a", 19+r.Intn(3))
	}
	return v
}

func drawName(r *rand.Rand) string {
	if r.Intn(20) == 0 {
		return []string{"", "A", "1a", "a1", "abcdefghij", "abcdefghijk", "a b"}[r.Intn(7)]
	}
	return []string{"a", "b", "c", "d", "e", "f", "g", "h"}[r.Intn(8)]
}

func drawType(r *rand.Rand) api.Type {
	t := api.Type{Name: drawName(r)}
	for range r.Intn(4 + r.Intn(3)) {
		f := api.Field{Name: drawName(r), Kind: 1 + r.Intn(2)}
		if r.Intn(30) == 0 {
			f.Kind = r.Intn(4)
		}
		t.Fields = append(t.Fields, f)
	}
	return t
}

// drawValues: mostly such as fit a type.
func drawValues(r *rand.Rand, t api.Type) []api.Value {
	var l []api.Value
	for _, f := range t.Fields {
		v := drawValue(r)
		for v.Kind != f.Kind && r.Intn(10) > 0 {
			v = drawValue(r)
		}
		l = append(l, v)
	}
	if r.Intn(10) == 0 {
		return append(l, drawValue(r))
	}
	if len(l) > 0 && r.Intn(10) == 0 {
		return l[1:]
	}
	return l
}

// TestDrawn: P4.1 to P4.7, drawn inputs held against the chapter's words asked one after another.
func TestDrawn(t *testing.T) {
	r := rand.New(rand.NewSource(4))
	met := map[api.Errno]int{}
	for range 20000 {
		a, b, x := drawValue(r), drawValue(r), drawType(r)
		l := drawValues(r, x)
		if e := Check(a); e != slowCheck(a) {
			t.Errorf("Check(%+v): %v", a, e)
		}
		if n, e := Compare(a, b); e != firstOf([]api.Errno{slowCheck(a), slowCheck(b), first(a.Kind != b.Kind, api.ErrType)}) {
			t.Errorf("Compare(%+v, %+v): %d, %v", a, b, n, e)
		} else if m, _ := Compare(b, a); n != -m || e == api.OK && (n == 0) != (a == b) {
			t.Errorf("Compare(%+v, %+v): %d, and %d the other way round", a, b, n, m)
		}
		if e := CheckType(x); e != slowType(x) {
			t.Errorf("CheckType(%v): %v", x, e)
		}
		e := Fit(x, l)
		if e != slowFit(x, l) {
			t.Errorf("Fit(%v, %+v): %v", x, l, e)
		}
		met[e]++
		y := api.Event{Number: r.Intn(9), Type: r.Intn(5) - 1, Span: api.Span{Start: r.Intn(9) - 1, End: r.Intn(20) - 1}, Values: l}
		wanted := firstOf([]api.Errno{
			first(y.Number == 0, api.ErrRange),
			first(y.Type < 0 || y.Type > 2, api.ErrNone),
			first(y.Span.Start < 0 || y.Span.End < 0, api.ErrRange, y.Span.Start > y.Span.End, api.ErrOrder),
			slowFit(x, l),
		})
		if e := CheckEvent([]api.Type{x, x, x}, y); e != wanted {
			t.Errorf("CheckEvent(%v, %v): %v, want %v", x, y, e, wanted)
		}
	}
	for _, e := range []api.Errno{api.OK, api.ErrSize, api.ErrRange, api.ErrKind, api.ErrForm, api.ErrTwice, api.ErrType} {
		if met[e] < 20 {
			t.Errorf("%v was drawn %d times only", e, met[e])
		}
	}
}

// TestUnchanged: lists that are handed in stay as they are, their spare room too.
func TestUnchanged(t *testing.T) {
	fields := append(typeOf(2, 1).Fields, api.Field{Name: "spare", Kind: 9})
	values := []api.Value{text("x"), number(1), number(99)}
	types := []api.Type{{Name: "t", Fields: fields[:2]}, {Name: "spare"}}
	x := api.Event{Number: 1, Values: values[:2]}
	if e := CheckEvent(types[:1], x); e != api.OK {
		t.Fatalf("CheckEvent: %v", e)
	}
	Field(types[0], "b")
	if !slices.Equal(fields, append(typeOf(2, 1).Fields, api.Field{Name: "spare", Kind: 9})) ||
		!slices.Equal(values, []api.Value{text("x"), number(1), number(99)}) || types[1].Name != "spare" {
		t.Errorf("changed: %v, %v, %v", fields, values, types)
	}
}
