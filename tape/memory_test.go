package tape

import (
	"math/rand"
	"reflect"
	"slices"
	"testing"

	"dotterel/api"
)

// mark stands in spare room.
const mark = 0xEE

// roomy: the same bytes, with marked room behind them, and the whole of it.
func roomy(b []byte) (list, all []byte) {
	all = append(slices.Clone(b), slices.Repeat([]byte{mark}, 5000)...)
	return all[:len(b)], all
}

// spoil bytes, and their spare room.
func spoil(b []byte) {
	b = b[:cap(b)]
	for i := range b {
		b[i] ^= 0x55
	}
}

// spoilValues of an act, and their spare room.
func spoilValues(a api.Act) {
	l := a.Operation.Values
	l = l[:cap(l)]
	for i := range l {
		l[i] = api.Value{Kind: 77, Int: i, Text: "spoilt"}
	}
}

// calls: all calls that answer a tape of one.
func calls(a api.Act) map[string]func(x api.Tape) (api.Tape, api.Errno) {
	return map[string]func(x api.Tape) (api.Tape, api.Errno){
		"Append": func(x api.Tape) (api.Tape, api.Errno) { return Append(x, a) },
		"Sync":   Sync,
		"Crash":  func(x api.Tape) (api.Tape, api.Errno) { return Crash(x, 3) },
		"Crash, and all is kept": func(x api.Tape) (api.Tape, api.Errno) {
			return Crash(x, api.MaxTape)
		},
		"Crash, and nothing is kept": func(x api.Tape) (api.Tape, api.Errno) { return Crash(x, 0) },
		"Recover": func(x api.Tape) (api.Tape, api.Errno) {
			_, y, e := Recover(x)
			return y, e
		},
	}
}

// TestShared: no call changes what it is given, bytes behind a tape's own neither, and what it answers shares no memory with it.
func TestShared(t *testing.T) {
	r := rand.New(rand.NewSource(3))
	for round := range 60 {
		b := drawnBytes(r, round%6)
		if round%3 == 0 {
			b = append(b, 0, 9)
		}
		a := drawnAct(r)
		for name, call := range calls(a) {
			list, all := roomy(b)
			was := slices.Clone(all)
			x := api.Tape{Data: list, Synced: r.Intn(len(b) + 1)}
			y, e := call(x)
			again, _ := call(x)
			if e != api.OK || !slices.Equal(all, was) {
				t.Fatalf("%s: %v, or it changes what it is given", name, e)
			}
			answer := slices.Clone(y.Data)
			spoil(y.Data)
			if !slices.Equal(all, was) || !slices.Equal(again.Data, answer) {
				t.Errorf("%s: its answer shares memory", name)
			}
			spoil(all)
			if !slices.Equal(again.Data, answer) {
				t.Errorf("%s: its answer hangs on what it was given", name)
			}
		}
	}
}

// TestBehind: P16.3: two acts that are written behind the same bytes do not write over each other, nor over what is there.
func TestBehind(t *testing.T) {
	x, _ := Append(api.Tape{}, do(query("a")))
	for _, base := range []api.Tape{{}, {Data: make([]byte, 0, 900)}, {Data: make([]byte, 7, 900), Synced: 2}, x} {
		var answers []api.Tape
		for _, c := range told {
			y, e := Append(base, c.a)
			if e != api.OK {
				t.Fatal(e)
			}
			answers = append(answers, y)
		}
		for i, c := range told {
			wantTape(t, "Append", answers[i], api.OK, api.Tape{Data: slices.Concat(base.Data, c.want), Synced: base.Synced})
		}
		if n := cap(base.Data); n > 100 && slices.Max(base.Data[:n]) > 0 {
			t.Errorf("it writes behind a tape's own bytes")
		}
	}
}

// TestActsShared: neither the values of an act that is written, nor those of one that is recovered, share memory with a tape, or with each other.
func TestActsShared(t *testing.T) {
	values := append(make([]api.Value, 0, 9), num(1), text("b"))
	a := do(insert(1, 2, values...))
	a.Operation.Values = values
	spare := slices.Clone(values[:9])
	x, e := Append(api.Tape{}, a)
	if e != api.OK || Check(a) != api.OK || !reflect.DeepEqual(values[:9], spare) {
		t.Fatalf("%v, or an act is changed", e)
	}
	spoilValues(a)
	want := do(insert(1, 2, num(1), text("b")))
	wantRecovered(t, x, []api.Act{want}, len(x.Data))

	data := slices.Concat(x.Data, x.Data, slowWrite(swap("xyz")), x.Data)
	acts := []api.Act{want, want, swap("xyz"), want}
	was := slices.Clone(data)
	for i := range acts {
		l, _, _ := Recover(api.Tape{Data: data})
		again, _, _ := Recover(api.Tape{Data: data})
		spoilValues(l[i])
		l[i] = want
		if !sameActs(again, acts) || !slices.Equal(data, was) {
			t.Errorf("act %d shares memory with another answer, or with the tape", i)
		}
		for j := range acts {
			if j != i && !sameActs(l[j:j+1], acts[j:j+1]) {
				t.Errorf("act %d shares memory with act %d", i, j)
			}
		}
	}
	l, _, _ := Recover(api.Tape{Data: data})
	spoil(data)
	if !sameActs(l, acts) {
		t.Errorf("acts hang on the tape's bytes: %+v", l)
	}
}
