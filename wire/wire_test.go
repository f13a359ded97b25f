package wire

import (
	"math"
	"reflect"
	"slices"
	"strings"
	"testing"

	"dotterel/api"
)

func num(n int) api.Value { return api.Value{Kind: api.Int, Int: n} }

func text(s string) api.Value { return api.Value{Kind: api.Text, Text: s} }

// insert an event of the type a from a Start to an End.
func insert(start, end int, values ...api.Value) api.Operation {
	return api.Operation{Kind: api.Insert, Type: "a", Span: api.Span{Start: start, End: end}, Values: values}
}

func step(delta int) api.Operation { return api.Operation{Kind: api.Advance, Delta: delta} }

func collect(delta int) api.Operation {
	return api.Operation{Kind: api.Advance, Delta: delta, Collect: true}
}

func query(kind string) api.Operation { return api.Operation{Kind: api.Query, Type: kind} }

// longest text, of the last byte that there is.
var longest = strings.Repeat("\xff", api.MaxText)

// told: operations that may be, each with its bytes.
var told = []struct {
	o    api.Operation
	want []byte
}{
	// An Advance: long numbers about the edges of one byte, of two, and so on, up to the greatest time.
	{step(0), []byte{2, 0, 0}},
	{collect(0), []byte{2, 0, 1}},
	{step(1), []byte{2, 1, 0}},
	{collect(1), []byte{2, 1, 1}},
	{step(127), []byte{2, 127, 0}},
	{step(128), []byte{2, 128, 1, 0}},
	{collect(129), []byte{2, 129, 1, 1}},
	{step(255), []byte{2, 255, 1, 0}},
	{step(256), []byte{2, 128, 2, 0}},
	{collect(300), []byte{2, 172, 2, 1}},
	{step(16383), []byte{2, 255, 127, 0}},
	{collect(16384), []byte{2, 128, 128, 1, 1}},
	{step(16385), []byte{2, 129, 128, 1, 0}},
	{step(1<<21 - 1), []byte{2, 255, 255, 127, 0}},
	{step(1 << 21), []byte{2, 128, 128, 128, 1, 0}},
	{step(api.MaxTime - 1), []byte{2, 255, 255, 255, 255, 255, 31, 0}},
	{collect(api.MaxTime), []byte{2, 128, 128, 128, 128, 128, 32, 1}},
	// A Query.
	{query("a"), []byte{3, 1, 97}},
	{query("z9"), []byte{3, 2, 122, 57}},
	{query("abcdefghij"), []byte{3, 10, 97, 98, 99, 100, 101, 102, 103, 104, 105, 106}},
	{api.Operation{Kind: api.Query, Type: "a", Values: []api.Value{}}, []byte{3, 1, 97}},
	// An Insert without Values.
	{insert(0, 0), []byte{1, 1, 97, 0, 0, 0}},
	{insert(1, 2), []byte{1, 1, 97, 1, 2, 0}},
	{insert(0, 128), []byte{1, 1, 97, 0, 128, 1, 0}},
	{insert(16384, 16511), []byte{1, 1, 97, 128, 128, 1, 255, 128, 1, 0}},
	{insert(0, api.MaxTime), []byte{1, 1, 97, 0, 128, 128, 128, 128, 128, 32, 0}},
	{insert(api.MaxTime, api.MaxTime), []byte{1, 1, 97, 128, 128, 128, 128, 128, 32, 128, 128, 128, 128, 128, 32, 0}},
	{api.Operation{Kind: api.Insert, Type: "door", Values: []api.Value{}}, []byte{1, 4, 100, 111, 111, 114, 0, 0, 0}},
	// Ints: signed numbers.
	{insert(0, 0, num(0)), []byte{1, 1, 97, 0, 0, 1, 1, 0}},
	{insert(0, 0, num(-1)), []byte{1, 1, 97, 0, 0, 1, 1, 1}},
	{insert(0, 0, num(1)), []byte{1, 1, 97, 0, 0, 1, 1, 2}},
	{insert(0, 0, num(-2)), []byte{1, 1, 97, 0, 0, 1, 1, 3}},
	{insert(0, 0, num(2)), []byte{1, 1, 97, 0, 0, 1, 1, 4}},
	{insert(0, 0, num(63)), []byte{1, 1, 97, 0, 0, 1, 1, 126}},
	{insert(0, 0, num(-64)), []byte{1, 1, 97, 0, 0, 1, 1, 127}},
	{insert(0, 0, num(64)), []byte{1, 1, 97, 0, 0, 1, 1, 128, 1}},
	{insert(0, 0, num(-65)), []byte{1, 1, 97, 0, 0, 1, 1, 129, 1}},
	{insert(0, 0, num(8191)), []byte{1, 1, 97, 0, 0, 1, 1, 254, 127}},
	{insert(0, 0, num(-8192)), []byte{1, 1, 97, 0, 0, 1, 1, 255, 127}},
	{insert(0, 0, num(8192)), []byte{1, 1, 97, 0, 0, 1, 1, 128, 128, 1}},
	{insert(0, 0, num(-8193)), []byte{1, 1, 97, 0, 0, 1, 1, 129, 128, 1}},
	{insert(0, 0, num(api.MaxInt)), []byte{1, 1, 97, 0, 0, 1, 1, 128, 128, 128, 128, 128, 128, 128, 4}},
	{insert(0, 0, num(-api.MaxInt)), []byte{1, 1, 97, 0, 0, 1, 1, 255, 255, 255, 255, 255, 255, 255, 3}},
	// Texts.
	{insert(0, 0, text("")), []byte{1, 1, 97, 0, 0, 1, 2, 0}},
	{insert(0, 0, text("x")), []byte{1, 1, 97, 0, 0, 1, 2, 1, 120}},
	{insert(0, 0, text("\x00")), []byte{1, 1, 97, 0, 0, 1, 2, 1, 0}},
	{insert(0, 0, text("\xff\n\"\x80 é")), []byte{1, 1, 97, 0, 0, 1, 2, 7, 255, 10, 34, 128, 32, 195, 169}},
	{insert(0, 0, text(longest)), append([]byte{1, 1, 97, 0, 0, 1, 2, 20}, longest...)},
	// More than one Value.
	{insert(1, 2, num(-2), text("x")), []byte{1, 1, 97, 1, 2, 2, 1, 3, 2, 1, 120}},
	{insert(0, 0, text(""), text(""), num(0)), []byte{1, 1, 97, 0, 0, 3, 2, 0, 2, 0, 1, 0}},
	{insert(0, 7, num(1), text("b"), num(300), text("cd")), []byte{1, 1, 97, 0, 7, 4, 1, 2, 2, 1, 98, 1, 216, 4, 2, 2, 99, 100}},
}

// same operations, by what is in them: Values without elements may be nil or not.
func same(a, b api.Operation) bool {
	if len(a.Values) == 0 && len(b.Values) == 0 {
		a.Values, b.Values = nil, nil
	}
	return reflect.DeepEqual(a, b)
}

// wantOperation of bytes.
func wantOperation(t *testing.T, b []byte, want api.Operation) {
	t.Helper()
	if o, e := Decode(b); e != api.OK || !same(o, want) {
		t.Errorf("Decode(%v): %+v, %v; want %+v", b, o, e, want)
	}
}

// wantWrong: bytes that are refused, and no operation.
func wantWrong(t *testing.T, b []byte, want api.Errno) {
	t.Helper()
	if o, e := Decode(b); e != want || !same(o, api.Operation{}) {
		t.Errorf("Decode(%v): %+v, %v; want %v", b, o, e, want)
	}
}

// TestTold: P15.1 to P15.4: operations that may be, there and back.
func TestTold(t *testing.T) {
	for _, c := range told {
		if e := Check(c.o); e != api.OK {
			t.Errorf("Check(%+v): %v", c.o, e)
		}
		if b, e := Encode(c.o); e != api.OK || !slices.Equal(b, c.want) {
			t.Errorf("Encode(%+v): %v, %v; want %v", c.o, b, e, c.want)
		}
		wantOperation(t, c.want, c.o)
	}
}

// TestBeginnings: P15.4: each beginning of bytes is too short, and with a byte more they are too many.
func TestBeginnings(t *testing.T) {
	for _, c := range told {
		for i := range c.want {
			wantWrong(t, slices.Clip(slices.Clone(c.want[:i])), api.ErrShort)
			// What stands behind the list, in its spare room, is none of it.
			wantWrong(t, c.want[:i], api.ErrShort)
		}
		for _, more := range []byte{0, 1, 2, 3, 4, 127, 128, 255} {
			wantWrong(t, append(slices.Clone(c.want), more), api.ErrForm)
			wantWrong(t, append(slices.Clone(c.want), more, more), api.ErrForm)
		}
		wantWrong(t, slices.Repeat(c.want, 2), api.ErrForm)
	}
}

// TestSize: P15.4: as many bytes as MaxBytes, and one more, ahead of all that else is wrong.
func TestSize(t *testing.T) {
	for _, begin := range [][]byte{{2, 0, 0}, {1, 1, 97, 0, 0, 0}, {3, 1, 97}} {
		b := make([]byte, api.MaxBytes+1)
		copy(b, begin)
		wantWrong(t, b[:api.MaxBytes], api.ErrForm)
		wantWrong(t, b, api.ErrSize)
		wantWrong(t, make([]byte, 10*api.MaxBytes), api.ErrSize)
	}
	none := slices.Repeat([]byte{0}, api.MaxBytes+1)
	wantWrong(t, none[1:], api.ErrKind)
	wantWrong(t, none, api.ErrSize)
	endless := slices.Repeat([]byte{2}, api.MaxBytes)
	copy(endless[1:], slices.Repeat([]byte{255}, 20))
	wantWrong(t, endless, api.ErrForm)
	wantWrong(t, append(endless, 0), api.ErrSize)
	// As many values as a byte can tell, nearly as long as may be: they are read whole.
	long := append([]byte{1, 1, 97, 0, 0, 255}, slices.Repeat(append([]byte{2}, letters(75)...), 255)...)
	wantWrong(t, long, api.ErrSize)
	wantWrong(t, long[:len(long)-1], api.ErrShort)
	wantWrong(t, append(long, 0), api.ErrForm)
}

// TestKindsRead: P15.4: no bytes; and a first byte that is no Kind, alone and with bytes behind it.
func TestKindsRead(t *testing.T) {
	wantWrong(t, nil, api.ErrShort)
	wantWrong(t, []byte{}, api.ErrShort)
	for kind := range 256 {
		if kind == api.Insert || kind == api.Advance || kind == api.Query {
			wantWrong(t, []byte{byte(kind)}, api.ErrShort)
			continue
		}
		wantWrong(t, []byte{byte(kind)}, api.ErrKind)
		for _, c := range told {
			wantWrong(t, append([]byte{byte(kind)}, c.want[1:]...), api.ErrKind)
			wantWrong(t, append([]byte{byte(kind)}, c.want...), api.ErrKind)
		}
	}
}

// places at which a long number stands, with what is ahead of it, and what has to come behind it.
var places = []struct {
	name         string
	ahead, after []byte
}{
	{"Delta", []byte{2}, []byte{0}},
	{"Start", []byte{1, 1, 97}, []byte{128, 128, 128, 128, 128, 32, 0}},
	{"End", []byte{1, 1, 97, 0}, []byte{0}},
	{"Int", []byte{1, 1, 97, 0, 0, 1, 1}, nil},
	{"second Int", []byte{1, 1, 97, 0, 0, 2, 2, 1, 120, 1}, nil},
}

// nines: so many bytes of a long number that goes on.
func nines(n int, c byte) []byte { return slices.Repeat([]byte{c}, n) }

// TestLongForm: P15.4: a long number with a 0 byte last that is not its only one, or that goes on behind its ninth byte, whatever is behind it.
func TestLongForm(t *testing.T) {
	var bad [][]byte
	for _, c := range []byte{128, 129, 255} {
		for n := 1; n < 9; n++ {
			bad = append(bad, append(nines(n, c), 0))
		}
		for n := 9; n < 13; n++ {
			bad = append(bad, nines(n, c))
			for _, last := range []byte{0, 1, 127} {
				bad = append(bad, append(nines(n, c), last))
			}
		}
	}
	for _, p := range places {
		for _, n := range bad {
			b := slices.Concat(p.ahead, n)
			wantWrong(t, b, api.ErrForm)
			wantWrong(t, slices.Concat(b, p.after), api.ErrForm)
			wantWrong(t, slices.Concat(b, p.after, []byte{0}), api.ErrForm)
			wantWrong(t, slices.Concat(b, nines(30, 255)), api.ErrForm)
		}
	}
}

// TestLongShort: P15.4: a long number that ends too early, of each length that goes on in time.
func TestLongShort(t *testing.T) {
	for _, p := range places {
		wantWrong(t, p.ahead, api.ErrShort)
		for _, c := range []byte{128, 129, 255} {
			for n := 1; n < 9; n++ {
				wantWrong(t, slices.Concat(p.ahead, nines(n, c)), api.ErrShort)
			}
		}
	}
}

// TestLongGreat: P15.4: long numbers of up to nine bytes are read whole, and then refused as what they are; those of nine bytes, at their greatest, do not leave 64 bits.
func TestLongGreat(t *testing.T) {
	for _, c := range []byte{128, 129, 255} {
		for n := 1; n < 9; n++ {
			for _, last := range []byte{1, 2, 64, 127} {
				number := append(nines(n, c), last)
				great := 0
				for i, d := range number {
					great += int(d&127) << (7 * i)
				}
				for _, p := range places {
					b := slices.Concat(p.ahead, number, p.after)
					want := api.OK
					if limit := api.MaxTime; p.after != nil && great > limit || p.after == nil && great > 2*api.MaxInt {
						want = api.ErrRange
					}
					if _, e := Decode(b); e != want {
						t.Errorf("%s of %d: %v, want %v", p.name, great, e, want)
					}
					if p.after != nil {
						wantWrong(t, b[:len(b)-1], api.ErrShort)
					}
					wantWrong(t, append(b, 0), api.ErrForm)
				}
			}
		}
	}
}

// TestNumbersRead: what the reader makes of numbers, beyond what Check lets through.
func TestNumbersRead(t *testing.T) {
	for _, c := range []struct {
		b            []byte
		long, signed int
	}{
		{[]byte{0}, 0, 0},
		{[]byte{1}, 1, -1},
		{[]byte{127}, 127, -64},
		{append(nines(7, 255), 127), 1<<56 - 1, -1 << 55},
		{append(nines(8, 128), 1), 1 << 56, 1 << 55},
		{append(nines(8, 128), 127), 127 << 56, 127 << 55},
		{append(nines(8, 255), 126), 127<<56 - 1, -127 << 55},
		{append(nines(8, 255), 127), math.MaxInt, -1 << 62},
		{append([]byte{254}, append(nines(7, 255), 127)...), math.MaxInt - 1, 1<<62 - 1},
	} {
		r := reader{rest: c.b}
		if n := r.long(); n != c.long || r.wrong != api.OK || len(r.rest) > 0 {
			t.Errorf("long %v: %d, %v, want %d", c.b, n, r.wrong, c.long)
		}
		r = reader{rest: c.b}
		if n := r.signed(); n != c.signed || r.wrong != api.OK || len(r.rest) > 0 {
			t.Errorf("signed %v: %d, %v, want %d", c.b, n, r.wrong, c.signed)
		}
		if b := putLong(nil, c.long); !slices.Equal(b, c.b) {
			t.Errorf("%d, long: %v, want %v", c.long, b, c.b)
		}
		if b := putSigned(nil, c.signed); !slices.Equal(b, c.b) {
			t.Errorf("%d, signed: %v, want %v", c.signed, b, c.b)
		}
	}
}

// TestBytesForm: P15.4: a byte for Collect that is neither 0 nor 1, and a value's Kind that is none, alone and with bytes behind it.
func TestBytesForm(t *testing.T) {
	for n := range 256 {
		c := byte(n)
		if c > 1 {
			wantWrong(t, []byte{2, 5, c}, api.ErrForm)
			wantWrong(t, []byte{2, 5, c, 0}, api.ErrForm)
		}
		if c != api.Int && c != api.Text {
			for _, ahead := range [][]byte{{1, 1, 97, 0, 0, 1}, {1, 1, 97, 0, 0, 2, 1, 6}, {1, 1, 97, 0, 0, 4, 2, 0, 1, 6, 2, 1, 120}, {1, 1, 97, 0, 0, 255}} {
				for _, behind := range [][]byte{nil, {0}, {1, 97}, {0, 1, 0, 2, 0}} {
					wantWrong(t, slices.Concat(ahead, []byte{c}, behind), api.ErrForm)
				}
			}
		}
	}
}

// zeros: so many Ints that are 0, as bytes.
func zeros(n int) []byte { return slices.Repeat([]byte{1, 0}, n) }

// letters: a text of so many bytes, as bytes.
func letters(n int) []byte { return append([]byte{byte(n)}, strings.Repeat("a", n)...) }

// TestReadRefused: P15.4: bytes that are in form, of what Check refuses; and what is wrong with the form is told ahead of that.
func TestReadRefused(t *testing.T) {
	late := []byte{128, 128, 128, 128, 128, 33} // MaxTime and 2^35
	over := []byte{129, 128, 128, 128, 128, 32} // MaxTime and 1
	for _, c := range []struct {
		b    []byte
		want api.Errno
	}{
		// A Delta that is no time.
		{slices.Concat([]byte{2}, over, []byte{0}), api.ErrRange},
		{slices.Concat([]byte{2}, late, []byte{1}), api.ErrRange},
		// Spans.
		{slices.Concat([]byte{1, 1, 97, 0}, over, []byte{0}), api.ErrRange},
		{slices.Concat([]byte{1, 1, 97}, over, []byte{0, 0}), api.ErrRange},
		{slices.Concat([]byte{1, 1, 97}, late, over, []byte{0}), api.ErrRange},
		{[]byte{1, 1, 97, 1, 0, 0}, api.ErrOrder},
		{[]byte{1, 1, 97, 128, 1, 127, 0}, api.ErrOrder},
		// More Values than MaxFields, up to as many as there may be in a byte.
		{append([]byte{1, 1, 97, 0, 0, 5}, zeros(5)...), api.ErrSize},
		{append([]byte{1, 1, 97, 0, 0, 5}, slices.Repeat([]byte{2, 0}, 5)...), api.ErrSize},
		{append([]byte{1, 1, 97, 0, 0, 128}, zeros(128)...), api.ErrSize},
		{append([]byte{1, 1, 97, 0, 0, 255}, zeros(255)...), api.ErrSize},
		// Values.
		{append([]byte{1, 1, 97, 0, 0, 1, 2}, letters(21)...), api.ErrSize},
		{append([]byte{1, 1, 97, 0, 0, 1, 2}, letters(255)...), api.ErrSize},
		{append([]byte{1, 1, 97, 0, 0, 2, 1, 0, 2}, letters(21)...), api.ErrSize},
		{[]byte{1, 1, 97, 0, 0, 1, 1, 129, 128, 128, 128, 128, 128, 128, 4}, api.ErrRange},       // -MaxInt - 1
		{[]byte{1, 1, 97, 0, 0, 1, 1, 130, 128, 128, 128, 128, 128, 128, 4}, api.ErrRange},       // MaxInt + 1
		{[]byte{1, 1, 97, 0, 0, 2, 2, 0, 1, 130, 128, 128, 128, 128, 128, 128, 4}, api.ErrRange}, // the second one
		// Names.
		{[]byte{3, 0}, api.ErrSize},
		{append([]byte{3}, letters(11)...), api.ErrSize},
		{append([]byte{3}, letters(255)...), api.ErrSize},
		{[]byte{3, 1, 65}, api.ErrForm},
		{[]byte{3, 2, 48, 97}, api.ErrForm},
		{[]byte{3, 1, 255}, api.ErrForm},
		{[]byte{1, 0, 0, 0, 0}, api.ErrSize},
		{slices.Concat([]byte{1}, letters(11), []byte{0, 0, 0}), api.ErrSize},
		{slices.Concat([]byte{1}, letters(255), []byte{0, 0, 0}), api.ErrSize},
		{[]byte{1, 1, 65, 0, 0, 0}, api.ErrForm},
		{[]byte{1, 2, 48, 97, 0, 0, 0}, api.ErrForm},
		// Each ahead of those behind it.
		{slices.Concat([]byte{1, 0}, over, []byte{0, 5}, zeros(5)), api.ErrRange},
		{slices.Concat([]byte{1, 0, 1, 0, 5}, zeros(5)), api.ErrOrder},
		{slices.Concat([]byte{1, 1, 65, 0, 0, 5}, zeros(4), []byte{1}, append(nines(8, 255), 127)), api.ErrSize},
		{slices.Concat([]byte{1, 1, 65, 0, 0, 1, 2}, letters(21)), api.ErrSize},
		{slices.Concat([]byte{1, 0, 0, 0, 1, 1}, append(nines(8, 255), 127)), api.ErrRange},
		{slices.Concat([]byte{1, 0, 0, 0, 2, 1}, append(nines(8, 255), 127), []byte{2}, letters(21)), api.ErrRange},
		{slices.Concat([]byte{1, 0, 0, 0, 2, 2}, letters(21), []byte{1}, append(nines(8, 255), 127)), api.ErrSize},
	} {
		wantWrong(t, c.b, c.want)
		wantWrong(t, append(slices.Clone(c.b), 0), api.ErrForm)
		wantWrong(t, append(slices.Clone(c.b), c.b...), api.ErrForm)
		for i := range c.b {
			wantWrong(t, c.b[:i], api.ErrShort)
		}
	}
}

// TestReadFirst: P15.4: of two things that are wrong the one that is read first.
func TestReadFirst(t *testing.T) {
	for _, c := range []struct {
		b    []byte
		want api.Errno
	}{
		{[]byte{9, 128, 0}, api.ErrKind},
		{[]byte{0, 255}, api.ErrKind},
		{[]byte{2, 128, 0}, api.ErrForm},          // a 0 byte last; then it is too short
		{[]byte{2, 128, 0, 9}, api.ErrForm},       // a 0 byte last; then the byte for Collect
		{[]byte{2, 128}, api.ErrShort},            // it might go on
		{[]byte{2, 0, 2}, api.ErrForm},            // the byte for Collect
		{[]byte{3, 5, 97}, api.ErrShort},          // a text that is too short, whatever it might be
		{[]byte{3, 255, 65, 65}, api.ErrShort},    // ahead of too long a name
		{[]byte{1, 2, 97}, api.ErrShort},          // the Type; then all that is behind it
		{[]byte{1, 9, 97, 128, 0}, api.ErrShort},  // the Type takes what looks wrong behind it
		{[]byte{1, 0, 128, 0}, api.ErrForm},       // the Start; then all that is behind it
		{[]byte{1, 0, 0, 128, 0}, api.ErrForm},    // the End
		{[]byte{1, 1, 97, 1, 0}, api.ErrShort},    // ahead of a span that ends too early
		{[]byte{1, 1, 97, 1, 0, 1}, api.ErrShort}, // the same, with a value that is not there
		{[]byte{1, 1, 97, 1, 0, 1, 3}, api.ErrForm},
		{[]byte{1, 1, 97, 0, 0, 2, 3}, api.ErrForm},              // a value's Kind; then the other one
		{[]byte{1, 1, 97, 0, 0, 2, 1}, api.ErrShort},             // a value's Int; then the other one
		{[]byte{1, 1, 97, 0, 0, 2, 1, 128, 0}, api.ErrForm},      // an Int with a 0 byte last
		{[]byte{1, 1, 97, 0, 0, 2, 2, 3, 0}, api.ErrShort},       // a value's text
		{[]byte{1, 1, 97, 0, 0, 2, 2, 1, 0, 3}, api.ErrForm},     // the second value's Kind
		{[]byte{1, 1, 97, 0, 0, 200}, api.ErrShort},              // ahead of too many Values
		{[]byte{1, 1, 97, 0, 0, 200, 0}, api.ErrForm},            // a Kind, ahead of too many Values
		{[]byte{1, 1, 97, 0, 0, 0, 200}, api.ErrForm},            // a byte more
		{[]byte{3, 0, 0}, api.ErrForm},                           // a byte more, ahead of the name
		{[]byte{2, 129, 128, 128, 128, 128, 32}, api.ErrShort},   // ahead of what is no time
		{[]byte{2, 129, 128, 128, 128, 128, 32, 7}, api.ErrForm}, // the byte for Collect, ahead of what is no time
	} {
		wantWrong(t, c.b, c.want)
	}
}
