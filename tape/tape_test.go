package tape

import (
	"math"
	"reflect"
	"slices"
	"testing"

	"dotterel/api"
	"dotterel/wire"
)

// told: acts that may be, each with what is written on the tape.
var told = []struct {
	a    api.Act
	want []byte
}{
	{do(query("a")), []byte{0, 3, 3, 1, 97}},
	{do(query("abcdefghij")), []byte{0, 12, 3, 10, 97, 98, 99, 100, 101, 102, 103, 104, 105, 106}},
	{do(step(0)), []byte{0, 3, 2, 0, 0}},
	{do(collect(300)), []byte{0, 4, 2, 172, 2, 1}},
	{do(step(api.MaxTime)), []byte{0, 8, 2, 128, 128, 128, 128, 128, 32, 0}},
	{do(insert(0, 0)), []byte{0, 6, 1, 1, 97, 0, 0, 0}},
	{do(insert(1, 2, num(-2), text("x"))), []byte{0, 11, 1, 1, 97, 1, 2, 2, 1, 3, 2, 1, 120}},
	{swap(""), []byte{0, 1, 0}},
	{swap("x"), []byte{0, 2, 0, 120}},
	{swap("\x00"), []byte{0, 2, 0, 0}},
	{swap("\x00\x03\x03\x01a"), []byte{0, 6, 0, 0, 3, 3, 1, 97}},
	{swap("\xff\n\x80é"), []byte{0, 6, 0, 255, 10, 128, 195, 169}},
	{swap(letters(253)), append([]byte{0, 254, 0}, letters(253)...)},
	{swap(letters(254)), append([]byte{0, 255, 0}, letters(254)...)},
	{swap(letters(255)), append([]byte{1, 0, 0}, letters(255)...)},
	{swap(letters(256)), append([]byte{1, 1, 0}, letters(256)...)},
	{swap(letters(510)), append([]byte{1, 255, 0}, letters(510)...)},
	{swap(letters(511)), append([]byte{2, 0, 0}, letters(511)...)},
	{swap(letters(api.MaxSource)), append([]byte{11, 185, 0}, letters(api.MaxSource)...)},
}

// sameTape: the same bytes, and as many of them synced; without bytes they may be nil or not.
func sameTape(a, b api.Tape) bool {
	return a.Synced == b.Synced && slices.Equal(a.Data, b.Data)
}

// sameActs, by what is in them: Values without elements may be nil or not.
func sameActs(a, b []api.Act) bool {
	return slices.EqualFunc(a, b, func(x, y api.Act) bool {
		if len(x.Operation.Values) == 0 && len(y.Operation.Values) == 0 {
			x.Operation.Values, y.Operation.Values = nil, nil
		}
		return reflect.DeepEqual(x, y)
	})
}

// wantTape of a call.
func wantTape(t *testing.T, what string, x api.Tape, e api.Errno, want api.Tape) {
	t.Helper()
	if e != api.OK || !sameTape(x, want) {
		t.Errorf("%s: %+v, %v; want %+v", what, x, e, want)
	}
}

// wantNoTape of a call that refuses.
func wantNoTape(t *testing.T, what string, x api.Tape, e, want api.Errno) {
	t.Helper()
	if e != want || !sameTape(x, api.Tape{}) {
		t.Errorf("%s: %+v, %v; want %v", what, x, e, want)
	}
}

// wantRecovered: the acts, and as many bytes as these have, of a tape.
func wantRecovered(t *testing.T, x api.Tape, acts []api.Act, end int) {
	t.Helper()
	l, y, e := Recover(x)
	if e != api.OK || !sameActs(l, acts) || !sameTape(y, api.Tape{Data: x.Data[:end], Synced: min(x.Synced, end)}) {
		t.Errorf("Recover(%+v): %+v, %+v, %v; want %+v and %d bytes", x, l, y, e, acts, end)
	}
}

// tapes of so many bytes: none synced, all, and half of them.
func tapes(n int) []api.Tape {
	return []api.Tape{{Data: make([]byte, n)}, {Data: make([]byte, n), Synced: n}, {Data: make([]byte, n), Synced: n / 2}}
}

// badTapes: such as may not be.
func badTapes() []api.Tape {
	var l []api.Tape
	for _, n := range []int{0, 1, 5, api.MaxTape - 1, api.MaxTape} {
		for _, synced := range []int{-1, -2, math.MinInt, n + 1, n + 2, math.MaxInt} {
			l = append(l, api.Tape{Data: make([]byte, n), Synced: synced})
			// What stands behind the list, in its spare room, is none of it.
			l = append(l, api.Tape{Data: make([]byte, n, n+100), Synced: synced})
		}
	}
	for _, n := range []int{api.MaxTape + 1, api.MaxTape + 2, 2 * api.MaxTape} {
		for _, synced := range []int{0, 1, api.MaxTape, n, n + 1, -1} {
			l = append(l, api.Tape{Data: make([]byte, n), Synced: synced})
		}
	}
	return append(l, api.Tape{Synced: 1}, api.Tape{Synced: -1})
}

// TestState: P16.1: tapes that may not be, ahead of all else that is wrong with the same call.
func TestState(t *testing.T) {
	acts := []api.Act{do(query("a")), swap(""), {}, {Kind: api.Sync}, {Kind: api.Do, Pick: 1}, do(step(-1)), swap(letters(api.MaxSource + 1))}
	for _, x := range badTapes() {
		for _, a := range acts {
			y, e := Append(x, a)
			wantNoTape(t, "Append", y, e, api.ErrState)
		}
		y, e := Sync(x)
		wantNoTape(t, "Sync", y, e, api.ErrState)
		for _, keep := range []int{0, 1, math.MaxInt, -1, math.MinInt} {
			y, e = Crash(x, keep)
			wantNoTape(t, "Crash", y, e, api.ErrState)
		}
		l, y, e := Recover(x)
		wantNoTape(t, "Recover", y, e, api.ErrState)
		if len(l) > 0 {
			t.Errorf("Recover: %+v", l)
		}
	}
}

// TestEdges: P16.1: tapes that just may be: no bytes, few, and as many as MaxTape; none synced, and all.
func TestEdges(t *testing.T) {
	for _, n := range []int{0, 1, 5, api.MaxTape - 1, api.MaxTape} {
		for _, x := range tapes(n) {
			y, e := Append(x, swap(""))
			if n+3 > api.MaxTape {
				wantNoTape(t, "Append", y, e, api.ErrFull)
			} else {
				wantTape(t, "Append", y, e, api.Tape{Data: append(slices.Clone(x.Data), 0, 1, 0), Synced: x.Synced})
			}
			y, e = Sync(x)
			wantTape(t, "Sync", y, e, api.Tape{Data: x.Data, Synced: n})
			y, e = Crash(x, 0)
			wantTape(t, "Crash", y, e, api.Tape{Data: x.Data[:x.Synced], Synced: x.Synced})
			wantRecovered(t, x, nil, 0)
		}
	}
}

// TestAppend: P16.3: the acts alone, behind others, and behind bytes that are none; what is synced stays.
func TestAppend(t *testing.T) {
	for _, c := range told {
		x, e := Append(api.Tape{}, c.a)
		wantTape(t, "Append", x, e, api.Tape{Data: c.want})
		x, e = Append(api.Tape{Data: []byte{}}, c.a)
		wantTape(t, "Append", x, e, api.Tape{Data: c.want})
		for _, ahead := range [][]byte{{0}, {7, 7, 7}, {0, 3, 3, 1, 97}, {0, 3, 3, 1, 97, 0, 1}} {
			for synced := range len(ahead) + 1 {
				x, e = Append(api.Tape{Data: ahead, Synced: synced}, c.a)
				wantTape(t, "Append", x, e, api.Tape{Data: slices.Concat(ahead, c.want), Synced: synced})
			}
		}
	}
	var x api.Tape
	var all []byte
	for _, c := range told {
		y, e := Append(x, c.a)
		all = append(all, c.want...)
		wantTape(t, "Append", y, e, api.Tape{Data: all})
		x = y
	}
}

// TestGreatest: P16.3: the operation with the most bytes.
func TestGreatest(t *testing.T) {
	b, e := wire.Encode(greatest())
	if e != api.OK || len(b) != 113 {
		t.Errorf("the greatest operation: %d bytes, %v", len(b), e)
	}
	x, e := Append(api.Tape{Data: []byte{9}, Synced: 1}, do(greatest()))
	wantTape(t, "Append", x, e, api.Tape{Data: slices.Concat([]byte{9, 0, 113}, b), Synced: 1})
	wantRecovered(t, api.Tape{Data: x.Data[1:]}, []api.Act{do(greatest())}, 115)
}

// TestFull: P16.3: each act fills the tape to its last byte, and has no room where there is one byte less.
func TestFull(t *testing.T) {
	for _, c := range told {
		n := api.MaxTape - len(c.want)
		for _, x := range tapes(n) {
			y, e := Append(x, c.a)
			wantTape(t, "Append", y, e, api.Tape{Data: slices.Concat(x.Data, c.want), Synced: x.Synced})
			for _, a := range told {
				z, e := Append(y, a.a)
				wantNoTape(t, "Append to a full one", z, e, api.ErrFull)
			}
		}
		for _, more := range []int{1, 2, len(c.want)} {
			for _, x := range tapes(n + more) {
				y, e := Append(x, c.a)
				wantNoTape(t, "Append", y, e, api.ErrFull)
			}
		}
	}
}

// TestFilled: P16.3: a tape that is filled act by act, to just MaxTape bytes, and recovered.
func TestFilled(t *testing.T) {
	var x api.Tape
	var acts []api.Act
	add := func(a api.Act, want api.Errno) {
		t.Helper()
		y, e := Append(x, a)
		if e != want {
			t.Errorf("at %d bytes: %v, want %v", len(x.Data), e, want)
		}
		if e == api.OK {
			acts, x = append(acts, a), y
		}
	}
	for range 66 {
		add(swap(letters(api.MaxSource)), api.OK)
	}
	left := api.MaxTape - 66*(api.MaxSource+3)
	add(swap(letters(api.MaxSource)), api.ErrFull)
	add(swap(letters(left-2)), api.ErrFull)
	add(swap(letters(left-3-5)), api.OK)
	add(do(insert(0, 0)), api.ErrFull)
	add(do(query("a")), api.OK)
	add(swap(""), api.ErrFull)
	add(do(step(0)), api.ErrFull)
	add(api.Act{Kind: api.Crash}, api.ErrKind)
	if len(x.Data) != api.MaxTape {
		t.Errorf("%d bytes", len(x.Data))
	}
	wantRecovered(t, x, acts, api.MaxTape)
	// The shortest acts: as many as there can be.
	var b []byte
	acts = nil
	for len(b)+3 <= api.MaxTape {
		b, acts = append(b, 0, 1, 0), append(acts, swap(""))
	}
	wantRecovered(t, api.Tape{Data: append(b, 0, 1), Synced: api.MaxTape}, acts, len(b))
}

// TestSync: P16.4: nothing to sync, some, all; twice.
func TestSync(t *testing.T) {
	for n := range 7 {
		data := []byte{1, 2, 3, 4, 5, 6, 7}[:n]
		for synced := range n + 1 {
			x, e := Sync(api.Tape{Data: data, Synced: synced})
			wantTape(t, "Sync", x, e, api.Tape{Data: data, Synced: n})
			x, e = Sync(x)
			wantTape(t, "Sync again", x, e, api.Tape{Data: data, Synced: n})
		}
	}
}

// TestCrash: P16.5: what was synced stays, and so many bytes behind it as are kept, if there are so many.
func TestCrash(t *testing.T) {
	for n := range 7 {
		data := []byte{1, 2, 3, 4, 5, 6, 7}[:n]
		for synced := range n + 1 {
			x := api.Tape{Data: data, Synced: synced}
			for keep := range n + 3 {
				end := synced
				for range keep {
					if end < n {
						end++
					}
				}
				y, e := Crash(x, keep)
				wantTape(t, "Crash", y, e, api.Tape{Data: data[:end], Synced: end})
				z, e := Crash(y, keep)
				wantTape(t, "Crash again", z, e, y)
			}
			for _, keep := range []int{api.MaxTape, api.MaxTape + 1, math.MaxInt - n, math.MaxInt - 1, math.MaxInt} {
				y, e := Crash(x, keep)
				wantTape(t, "Crash", y, e, api.Tape{Data: data, Synced: n})
			}
			for _, keep := range []int{-1, -2, -n, math.MinInt} {
				if keep < 0 {
					y, e := Crash(x, keep)
					wantNoTape(t, "Crash", y, e, api.ErrRange)
				}
			}
		}
	}
	// What is behind the bytes, in their spare room, is none of them.
	y, e := Crash(api.Tape{Data: []byte{1, 2, 3, 4, 5}[:3], Synced: 1}, 4)
	wantTape(t, "Crash", y, e, api.Tape{Data: []byte{1, 2, 3}, Synced: 3})
}

// TestRecover: P16.6: an empty tape; each act alone; and all of them, of each beginning just those that stand whole, whatever of it is synced.
func TestRecover(t *testing.T) {
	wantRecovered(t, api.Tape{}, nil, 0)
	wantRecovered(t, api.Tape{Data: []byte{}}, nil, 0)
	var all []byte
	var acts []api.Act
	ends := []int{0}
	for _, c := range told {
		wantRecovered(t, api.Tape{Data: c.want}, []api.Act{c.a}, len(c.want))
		all, acts = append(all, c.want...), append(acts, c.a)
		ends = append(ends, len(all))
	}
	whole := 0
	for n := range len(all) + 1 {
		if whole < len(acts) && n == ends[whole+1] {
			whole++
		}
		end := ends[whole]
		for _, synced := range []int{0, 1, end - 1, end, end + 1, n} {
			if synced >= 0 && synced <= n {
				wantRecovered(t, api.Tape{Data: all[:n], Synced: synced}, acts[:whole], end)
			}
		}
	}
}

// broken: bytes of which none stands whole at the beginning, though what is behind them would.
var broken = []struct {
	name string
	b    []byte
}{
	{"a length alone", []byte{0, 3}},
	{"half a length", []byte{0}},
	{"half a greater length", []byte{1}},
	{"a length 0", []byte{0, 0}},
	{"a length 0, and an act that would be whole", []byte{0, 0, 3, 1, 97}},
	{"a length 0, and one that would be a Swap", []byte{0, 0, 0}},
	{"no Kind", []byte{0, 1, 4}},
	{"no Kind, with more", []byte{0, 3, 4, 1, 97}},
	{"no Kind, 255", []byte{0, 2, 255, 0}},
	{"a Kind alone", []byte{0, 1, 3}},
	{"an operation with a byte less", []byte{0, 2, 3, 1, 97}},
	{"an operation with a byte more", []byte{0, 4, 3, 1, 97, 0}},
	{"an Advance with a byte less", []byte{0, 2, 2, 0, 0}},
	{"an Advance with a byte more", []byte{0, 4, 2, 0, 0, 0}},
	{"an Insert with a byte less", []byte{0, 5, 1, 1, 97, 0, 0, 0}},
	{"an Insert with a byte more", []byte{0, 7, 1, 1, 97, 0, 0, 0, 0}},
	{"a name that may not be", []byte{0, 3, 3, 1, 65}},
	{"a name without letters", []byte{0, 2, 3, 0}},
	{"a span that ends too early", []byte{0, 6, 1, 1, 97, 1, 0, 0}},
	{"what is no time", []byte{0, 8, 2, 129, 128, 128, 128, 128, 32, 0}},
	{"a number in another form", []byte{0, 4, 2, 128, 0, 0}},
	{"a Collect in another form", []byte{0, 3, 2, 0, 2}},
	{"a 0 and too long a Source", append([]byte{11, 186, 0}, letters(api.MaxSource+1)...)},
	{"a 0 and a Source of the greatest length", append([]byte{255, 255, 0}, letters(1<<16-2)...)},
	{"more bytes than an operation may have", append([]byte{78, 33, 3, 1, 97}, make([]byte, api.MaxBytes)...)},
	{"the same with the length told the other way round", []byte{3, 0, 3, 1, 97}},
}

// TestBroken: P16.6: what is whole behind a place where none is whole is not read.
func TestBroken(t *testing.T) {
	behind := slices.Repeat([]byte{0, 3, 3, 1, 97}, 3)
	for _, c := range broken {
		t.Run(c.name, func(t *testing.T) {
			wantRecovered(t, api.Tape{Data: c.b}, nil, 0)
			for i := range told[:9] {
				ahead, acts := []byte(nil), []api.Act(nil)
				for _, c := range told[:i] {
					ahead, acts = append(ahead, c.want...), append(acts, c.a)
				}
				end := len(ahead)
				for _, b := range [][]byte{slices.Concat(ahead, c.b), slices.Concat(ahead, c.b, behind)} {
					if len(c.b) < 3 && c.b[len(c.b)-1] > 0 && len(b) > end+len(c.b) {
						// A length takes in what is behind it: TestLengths asks that.
						continue
					}
					for _, synced := range []int{0, end, end + 1, len(b)} {
						wantRecovered(t, api.Tape{Data: b, Synced: synced}, acts, end)
					}
				}
			}
		})
	}
}

// TestOn: P16.6: what is written behind a recovery is recovered, too.
func TestOn(t *testing.T) {
	for _, c := range broken {
		for synced := range 3 {
			ahead := told[0].want
			x := api.Tape{Data: slices.Concat(ahead, c.b), Synced: synced * (len(ahead) + len(c.b)) / 2}
			_, y, e := Recover(x)
			if e != api.OK || !slices.Equal(y.Data, ahead) {
				t.Fatalf("%s: %+v, %v", c.name, y, e)
			}
			acts := []api.Act{told[0].a}
			for _, more := range told[1:] {
				z, e := Append(y, more.a)
				if e != api.OK {
					t.Fatal(e)
				}
				y, acts = z, append(acts, more.a)
			}
			wantRecovered(t, y, acts, len(y.Data))
		}
	}
}
