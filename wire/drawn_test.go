package wire

import (
	"math/big"
	"math/rand"
	"slices"
	"strings"
	"testing"

	"dotterel/api"
	"dotterel/session"
	"dotterel/tick"
	"dotterel/value"
)

// slowLong and slowSigned: the chapter's words, by numbers without bounds.
func slowLong(n *big.Int) []byte {
	high, low := new(big.Int).DivMod(n, big.NewInt(128), new(big.Int))
	if high.Sign() == 0 {
		return []byte{byte(low.Int64())}
	}
	return append([]byte{byte(low.Int64() + 128)}, slowLong(high)...)
}

func slowSigned(n int) []byte {
	twice := new(big.Int).Mul(big.NewInt(2), big.NewInt(int64(n)))
	if n >= 0 {
		return slowLong(twice)
	}
	// Above -1 up to it: as many as it is below -1.
	return slowLong(twice.Sub(big.NewInt(-1), twice))
}

func slowText(s string) []byte { return append([]byte{byte(len(s))}, s...) }

// slowEncode: the bytes of an operation that may be.
func slowEncode(o api.Operation) []byte {
	number := func(n int) []byte { return slowLong(big.NewInt(int64(n))) }
	switch o.Kind {
	case 2:
		return slices.Concat([]byte{2}, number(o.Delta), []byte{map[bool]byte{true: 1}[o.Collect]})
	case 3:
		return slices.Concat([]byte{3}, slowText(o.Type))
	}
	out := slices.Concat([]byte{1}, slowText(o.Type), number(o.Span.Start), number(o.Span.End), []byte{byte(len(o.Values))})
	for _, v := range o.Values {
		if v.Kind == 1 {
			out = slices.Concat(out, []byte{1}, slowSigned(v.Int))
		} else {
			out = slices.Concat(out, []byte{2}, slowText(v.Text))
		}
	}
	return out
}

// slowCheck: all that may be refused, in its order; and the first of it.
func slowCheck(o api.Operation) api.Errno {
	all := []api.Errno{session.Bare(o)}
	if o.Kind == 2 && (o.Delta < 0 || o.Delta > 1<<40) {
		all = append(all, api.ErrRange)
	}
	if o.Kind == 1 {
		all = append(all, tick.Check(o.Span))
		if len(o.Values) > 4 {
			all = append(all, api.ErrSize)
		}
		for _, v := range o.Values {
			all = append(all, value.Check(v))
		}
	}
	if o.Kind == 1 || o.Kind == 3 {
		all = append(all, value.Name(o.Type))
	}
	for _, e := range all {
		if e != api.OK {
			return e
		}
	}
	return api.OK
}

// judge of bytes: reads them from the place at on, and is left by a panic with the first error.
type judge struct {
	b  []byte
	at int
}

func (j *judge) one() int {
	if j.at >= len(j.b) {
		panic(api.ErrShort)
	}
	j.at++
	return int(j.b[j.at-1])
}

// long number: its bytes are found first, then their sum.
func (j *judge) long() *big.Int {
	var digits []int
	for {
		c := j.one()
		digits = append(digits, c%128)
		if c < 128 {
			break
		}
		if len(digits) == 9 {
			panic(api.ErrForm)
		}
	}
	if len(digits) > 1 && digits[len(digits)-1] == 0 {
		panic(api.ErrForm)
	}
	sum := new(big.Int)
	for _, d := range slices.Backward(digits) {
		sum.Add(sum.Mul(sum, big.NewInt(128)), big.NewInt(int64(d)))
	}
	return sum
}

// whole number of 64 bits: what is read never leaves them.
func whole(n *big.Int) int {
	if !n.IsInt64() {
		panic("a number that leaves 64 bits")
	}
	return int(n.Int64())
}

func (j *judge) signed() int {
	half, odd := new(big.Int).DivMod(j.long(), big.NewInt(2), new(big.Int))
	if odd.Sign() > 0 {
		half.Sub(big.NewInt(-1), half)
	}
	return whole(half)
}

func (j *judge) text() string {
	var s []byte
	for range j.one() {
		s = append(s, byte(j.one()))
	}
	return string(s)
}

func (j *judge) value() api.Value {
	switch j.one() {
	case 1:
		return api.Value{Kind: 1, Int: j.signed()}
	case 2:
		return api.Value{Kind: 2, Text: j.text()}
	}
	panic(api.ErrForm)
}

func (j *judge) operation() api.Operation {
	o := api.Operation{Kind: j.one()}
	switch o.Kind {
	case 1:
		o.Type = j.text()
		o.Span.Start = whole(j.long())
		o.Span.End = whole(j.long())
		for range j.one() {
			o.Values = append(o.Values, j.value())
		}
	case 2:
		o.Delta = whole(j.long())
		collect := j.one()
		if collect > 1 {
			panic(api.ErrForm)
		}
		o.Collect = collect == 1
	case 3:
		o.Type = j.text()
	default:
		panic(api.ErrKind)
	}
	return o
}

// slowDecode: the operation of bytes, else the first error.
func slowDecode(b []byte) (o api.Operation, e api.Errno) {
	if len(b) > 20000 {
		return api.Operation{}, api.ErrSize
	}
	defer func() {
		switch found := recover().(type) {
		case nil:
		case api.Errno:
			o, e = api.Operation{}, found
		default:
			panic(found)
		}
	}()
	j := &judge{b: b}
	o = j.operation()
	if j.at < len(b) {
		panic(api.ErrForm)
	}
	if e := slowCheck(o); e != api.OK {
		panic(e)
	}
	return o, api.OK
}

// besideSlow: bytes are read as the judge reads them; and an operation has no other bytes than these.
func besideSlow(t *testing.T, b []byte) api.Errno {
	t.Helper()
	o, e := Decode(b)
	want, code := slowDecode(b)
	if e != code || !same(o, want) {
		t.Fatalf("Decode(%v): %+v, %v; want %+v, %v", b, o, e, want, code)
	}
	if e == api.OK {
		if again, e := Encode(o); e != api.OK || !slices.Equal(again, b) {
			t.Fatalf("Encode(%+v): %v, %v; it was read from %v", o, again, e, b)
		}
	}
	return e
}

// drawNumber from 0 on, of any length.
func drawNumber(r *rand.Rand, most int) int {
	n := r.Intn(1<<r.Intn(52)) + r.Intn(3) - 1
	if r.Intn(30) == 0 {
		return most + r.Intn(3) - 1
	}
	return max(n, 0)
}

func drawText(r *rand.Rand, most int) string {
	if r.Intn(8) == 0 {
		return strings.Repeat("a", most+r.Intn(3)-1)
	}
	return strings.Repeat([]string{"a", "b7", "\x80", "c"}[r.Intn(4)], r.Intn(5))
}

func drawValue(r *rand.Rand) api.Value {
	v := num(drawNumber(r, api.MaxInt) * (1 - 2*r.Intn(2)))
	if r.Intn(2) == 0 {
		v = text(drawText(r, api.MaxText))
	}
	if r.Intn(60) == 0 {
		v.Kind = r.Intn(5) - 1
	}
	return v
}

// drawOperation: mostly one that may be.
func drawOperation(r *rand.Rand) api.Operation {
	o := api.Operation{Kind: 1 + r.Intn(3), Type: drawText(r, api.MaxName)}
	if r.Intn(3) > 0 {
		o.Type = "a"
	}
	switch o.Kind {
	case api.Insert:
		o.Span.End = drawNumber(r, api.MaxTime)
		o.Span.Start = r.Intn(o.Span.End + 1)
		if r.Intn(20) == 0 {
			o.Span.Start = drawNumber(r, api.MaxTime) - 1
		}
		for range r.Intn(5) + r.Intn(12)/11 {
			o.Values = append(o.Values, drawValue(r))
		}
	case api.Advance:
		o.Type = ""
		o.Delta, o.Collect = drawNumber(r, api.MaxTime)-r.Intn(20)/19, r.Intn(2) == 0
	}
	switch r.Intn(60) {
	case 0:
		o.Kind = r.Intn(6) - 1
	case 1:
		o.Collect = true
	case 2:
		o.Type = "b"
	}
	return o
}

// wantMet: errors that a drawn test has to meet, so that it holds them.
func wantMet(t *testing.T, met map[api.Errno]int, l ...api.Errno) {
	t.Helper()
	for _, e := range l {
		if met[e] < 50 {
			t.Errorf("%v: met %d times only", e, met[e])
		}
	}
}

// TestDrawnOperations: P15.1 to P15.4: drawn operations, beside the judge.
func TestDrawnOperations(t *testing.T) {
	r := rand.New(rand.NewSource(15))
	met := map[api.Errno]int{}
	for range 50000 {
		o := drawOperation(r)
		want := slowCheck(o)
		met[want]++
		if want != api.OK {
			wantRefused(t, o, want)
			continue
		}
		b, e := Encode(o)
		if e != api.OK || !slices.Equal(b, slowEncode(o)) {
			t.Fatalf("Encode(%+v): %v, %v; want %v", o, b, e, slowEncode(o))
		}
		wantOperation(t, b, o)
		besideSlow(t, b)
	}
	wantMet(t, met, api.OK, api.ErrSize, api.ErrRange, api.ErrKind, api.ErrForm, api.ErrOrder)
}

// signs that mean something in bytes.
var signs = []byte{0, 1, 2, 3, 4, 97, 126, 127, 128, 129, 254, 255}

// spoil bytes in one way or other.
func spoil(r *rand.Rand, b []byte) []byte {
	at := r.Intn(len(b))
	c := signs[r.Intn(len(signs))]
	switch r.Intn(6) {
	case 0:
		return slices.Concat(b[:at], []byte{c}, b[at:])
	case 1:
		return slices.Concat(b[:at], b[at+1:])
	case 2:
		return slices.Concat(b[:at], slices.Repeat([]byte{c}, r.Intn(12)), b[at:])
	case 3:
		return b[:at]
	}
	b[at] = c
	return b
}

// TestDrawnBytes: P15.4: bytes of operations, those that may not be too, spoilt in some places, beside the judge.
func TestDrawnBytes(t *testing.T) {
	r := rand.New(rand.NewSource(16))
	met := map[api.Errno]int{}
	for range 100000 {
		o := drawOperation(r)
		if o.Kind < 1 || o.Kind > 3 || o.Delta < 0 || o.Span.Start < 0 {
			continue
		}
		b := slowEncode(o)
		for range r.Intn(4) {
			if len(b) > 0 {
				b = spoil(r, b)
			}
		}
		met[besideSlow(t, b)]++
	}
	wantMet(t, met, api.OK, api.ErrSize, api.ErrRange, api.ErrKind, api.ErrForm, api.ErrShort, api.ErrOrder)
}

// TestAllBytes: P15.4: all lists of up to two bytes, and all of up to five of some signs, beside the judge.
func TestAllBytes(t *testing.T) {
	besideSlow(t, nil)
	for a := range 256 {
		besideSlow(t, []byte{byte(a)})
		for b := range 256 {
			besideSlow(t, []byte{byte(a), byte(b)})
		}
	}
	some := []byte{0, 1, 2, 3, 97, 127, 128, 255}
	var all func(b []byte)
	all = func(b []byte) {
		besideSlow(t, b)
		if len(b) == 5 {
			return
		}
		for _, c := range some {
			all(append(slices.Clip(b), c))
		}
	}
	all([]byte{1})
	all([]byte{1, 1, 97, 0, 1})
	all([]byte{2})
	all([]byte{3})
}

// room: the bytes with just four more behind them, which are not theirs.
func room(b []byte) []byte {
	return slices.Concat(b, []byte{9, 9, 9, 9})[: len(b) : len(b)+4]
}

// TestUnchanged: what is handed in is not changed, its spare room neither.
func TestUnchanged(t *testing.T) {
	for _, c := range told {
		values := append(slices.Clone(c.o.Values), num(99), text("spare"))
		o := c.o
		o.Values = values[:len(c.o.Values)]
		Check(o)
		Encode(o)
		if !same(o, c.o) || !slices.Equal(values[len(o.Values):], []api.Value{num(99), text("spare")}) {
			t.Errorf("%+v was changed to %+v, with %v", c.o, o, values)
		}
		for i := range len(c.want) + 1 {
			b := room(c.want[:i])
			Decode(b)
			if !slices.Equal(b[:i+4], slices.Concat(c.want[:i], []byte{9, 9, 9, 9})) {
				t.Errorf("%v was changed to %v", c.want[:i], b[:i+4])
			}
		}
	}
}

// TestNew: what is answered shares memory neither with what was handed in nor with another answer, spare room too.
func TestNew(t *testing.T) {
	for _, c := range told {
		o := c.o
		o.Values = slices.Clone(c.o.Values)
		first, _ := Encode(o)
		second, _ := Encode(o)
		for i := range o.Values {
			o.Values[i] = api.Value{Kind: 7}
		}
		for i := range first[:cap(first)] {
			first[:cap(first)][i] = 9
		}
		if !slices.Equal(second, c.want) {
			t.Errorf("Encode(%+v): it became %v", c.o, second)
		}
		b := room(c.want)
		one, _ := Decode(b)
		two, _ := Decode(b)
		whole := one.Values[:cap(one.Values)]
		for i := range whole {
			whole[i] = api.Value{Kind: 7}
		}
		for i := range b[:cap(b)] {
			b[:cap(b)][i] = 7
		}
		if !same(two, c.o) {
			t.Errorf("Decode(%v): it became %+v", c.want, two)
		}
	}
}
