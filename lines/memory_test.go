package lines

import (
	"math/rand"
	"reflect"
	"slices"
	"testing"

	"dotterel/api"
)

// spoilt value: it stands in no act that may be.
var spoilt = api.Value{Kind: 77, Int: 88, Text: "spoilt"}

// spoilValues of an act, and their spare room.
func spoilValues(a api.Act) {
	l := a.Operation.Values
	l = l[:cap(l)]
	for i := range l {
		l[i] = spoilt
	}
}

// roomy: the same acts, with marked room behind them and behind their values; and the whole of both.
func roomy(l []api.Act) (list, all []api.Act) {
	all = append(slices.Clone(l), make([]api.Act, 5)...)
	for i := range all {
		v := &all[i].Operation.Values
		n := len(*v)
		*v = append(slices.Clone(*v), slices.Repeat([]api.Value{spoilt}, 3)...)[:n]
	}
	return all[:len(l)], all
}

// whole: acts with the spare room of their values.
func whole(l []api.Act) []api.Act {
	out := slices.Clone(l)
	for i := range out {
		v := out[i].Operation.Values
		out[i].Operation.Values = slices.Clone(v[:cap(v)])
	}
	return out
}

// TestUnchanged: no call changes anything of what it is given, spare room neither.
func TestUnchanged(t *testing.T) {
	r := rand.New(rand.NewSource(3))
	for range 300 {
		l := drawnActs(r, 6)
		if len(l) > 0 && r.Intn(3) == 0 {
			l[r.Intn(len(l))] = spoilAct(r, l[0])
		}
		list, all := roomy(l)
		was := whole(all)
		Show(list)
		for _, a := range list {
			Check(a)
		}
		if !reflect.DeepEqual(whole(all), was) {
			t.Fatalf("acts are changed: %+v, were %+v", whole(all), was)
		}
	}
}

// TestShown: a text that was shown does not hang on the acts, nor on another one.
func TestShown(t *testing.T) {
	r := rand.New(rand.NewSource(4))
	for range 100 {
		l := drawnActs(r, 6)
		want := slowShow(l)
		s, _, _ := Show(l)
		for _, a := range l {
			spoilValues(a)
		}
		Show(slices.Repeat([]api.Act{swap(letters(99))}, 9))
		if s != want {
			t.Errorf("%q, was %q", s, want)
		}
	}
}

// TestActsShared: acts that were read share no memory with each other, nor with another answer.
func TestActsShared(t *testing.T) {
	r := rand.New(rand.NewSource(5))
	for range 200 {
		acts := append(drawnActs(r, 6), do(insert(1, 2, num(3), text("x"))), do(insert(1, 2, num(3), text("x"))), do(insert(0, 0, num(1), num(2), num(3))))
		s := slowShow(acts)
		again, _, _ := Read(s)
		for i := range acts {
			l, _, _ := Read(s)
			spoilValues(l[i])
			l[i] = acts[i]
			if !same(l, acts) {
				t.Errorf("act %d shares memory with another one", i)
			}
			room := l[:cap(l)]
			for j := range room {
				room[j] = api.Act{Kind: 99}
			}
		}
		if !same(again, acts) {
			t.Errorf("two answers share memory")
		}
	}
}
