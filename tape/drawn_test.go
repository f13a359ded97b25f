package tape

import (
	"math/rand"
	"slices"
	"testing"

	"dotterel/api"
	"dotterel/wire"
)

// slowWrite: what is written of an act that may be, by the chapter's words.
func slowWrite(a api.Act) []byte {
	b := append([]byte{0}, a.Source...)
	if a.Kind == api.Do {
		b, _ = wire.Encode(a.Operation)
	}
	return slices.Concat([]byte{byte(len(b) / 256), byte(len(b) % 256)}, b)
}

// slowActs: the acts that stand whole from the first byte on, and how many bytes they have: what an act would be is found first, then whether it may be, and is written just so.
func slowActs(b []byte) ([]api.Act, int) {
	if len(b) < 3 || len(b) < 2+256*int(b[0])+int(b[1]) || b[0] == 0 && b[1] == 0 {
		return nil, 0
	}
	end := 2 + 256*int(b[0]) + int(b[1])
	a := api.Act{Kind: api.Swap, Source: string(b[3:end])}
	if b[2] > 0 {
		o, e := wire.Decode(b[2:end])
		if e != api.OK {
			return nil, 0
		}
		a = do(o)
	}
	if Check(a) != api.OK || !slices.Equal(slowWrite(a), b[:end]) {
		return nil, 0
	}
	l, n := slowActs(b[end:])
	return append([]api.Act{a}, l...), end + n
}

// wantSlow: what the judge finds on a tape is what is recovered.
func wantSlow(t *testing.T, x api.Tape) {
	t.Helper()
	l, end := slowActs(x.Data)
	wantRecovered(t, x, l, end)
}

// drawnOperation, one that may be.
func drawnOperation(r *rand.Rand) api.Operation {
	name := []string{"a", "b", "door", "abcdefghij"}[r.Intn(4)]
	number := []int{0, 1, 127, 128, 255, 256, 16384, 1 << 30, api.MaxTime}[r.Intn(9)]
	switch r.Intn(3) {
	case 0:
		o := insert(r.Intn(number+1), number)
		o.Type = name
		for range r.Intn(api.MaxFields + 1) {
			if r.Intn(2) == 0 {
				o.Values = append(o.Values, num(r.Intn(600)-300))
			} else {
				o.Values = append(o.Values, text(letters(r.Intn(api.MaxText+1))))
			}
		}
		return o
	case 1:
		return api.Operation{Kind: api.Advance, Delta: number, Collect: r.Intn(2) == 0}
	}
	return query(name)
}

// drawnAct, one that may be.
func drawnAct(r *rand.Rand) api.Act {
	if r.Intn(4) > 0 {
		return do(drawnOperation(r))
	}
	b := make([]byte, []int{0, 1, 2, 5, 60, 254, 255, 300}[r.Intn(8)])
	for i := range b {
		b[i] = byte(r.Intn(5))
	}
	return swap(string(b))
}

// drawnBytes of acts that may be.
func drawnBytes(r *rand.Rand, n int) []byte {
	var b []byte
	for range n {
		b = append(b, slowWrite(drawnAct(r))...)
	}
	return b
}

// TestLengths: P16.6: each length ahead of bytes that it may take in, up to more than there are.
func TestLengths(t *testing.T) {
	act := []byte{0, 3, 3, 1, 97}
	for n := range 1 << 12 {
		for _, behind := range [][]byte{nil, act, slices.Repeat(act, 4), make([]byte, 3500), slices.Repeat([]byte{2, 0, 0}, 400)} {
			b := slices.Concat(act, []byte{byte(n >> 8), byte(n)}, behind)
			wantSlow(t, api.Tape{Data: b, Synced: n % (len(b) + 1)})
		}
	}
}

// TestSpoilt: P16.6: drawn tapes with a byte that is another one, too many, or too few.
func TestSpoilt(t *testing.T) {
	r := rand.New(rand.NewSource(16))
	acts, changed := 0, 0
	for range 4000 {
		b := drawnBytes(r, r.Intn(8))
		whole, _ := slowActs(b)
		for range r.Intn(3) {
			place := r.Intn(len(b) + 1)
			c := []byte{0, 1, 2, 3, 4, 128, byte(r.Intn(256))}[r.Intn(7)]
			switch more := b[place:]; r.Intn(3) {
			case 0:
				b = slices.Concat(b[:place], []byte{c}, more)
			case 1:
				b = slices.Concat(b[:place], more[min(1, len(more)):])
			case 2:
				b = slices.Concat(b[:place], []byte{c}, more[min(1, len(more)):])
			}
		}
		left, _ := slowActs(b)
		acts += len(left)
		changed += len(whole) - len(left)
		wantSlow(t, api.Tape{Data: b, Synced: r.Intn(len(b) + 1)})
	}
	if acts < 5000 || changed < 3000 {
		t.Errorf("too few acts are left, %d, or too few are spoilt, %d", acts, changed)
	}
}

// course of a tape: how it should be, and the acts that were written on it, with the place where each one ends.
type course struct {
	data   []byte
	synced int
	acts   []api.Act
	ends   []int
}

// cut what is behind a place, and the acts that do not stand whole ahead of it.
func (c *course) cut(end int) {
	c.data = c.data[:end]
	c.synced = min(c.synced, end)
	for len(c.ends) > 0 && c.ends[len(c.ends)-1] > end {
		c.ends, c.acts = c.ends[:len(c.ends)-1], c.acts[:len(c.acts)-1]
	}
}

func (c *course) tape() api.Tape { return api.Tape{Data: c.data, Synced: c.synced} }

// step with a tape: whatever a desk may do with it.
func (c *course) step(t *testing.T, r *rand.Rand, x api.Tape) api.Tape {
	t.Helper()
	switch r.Intn(8) {
	case 0:
		y, e := Sync(x)
		c.synced = len(c.data)
		wantTape(t, "Sync", y, e, c.tape())
		return y
	case 1:
		keep := r.Intn(400)
		before := slices.Clone(synced(c))
		y, e := Crash(x, keep)
		end := min(c.synced+keep, len(c.data))
		c.synced = end
		c.data = c.data[:end]
		wantTape(t, "Crash", y, e, c.tape())
		c.cut(end)
		l, z, e := Recover(y)
		if e != api.OK || !sameActs(l, c.acts) {
			t.Fatalf("behind a crash: %+v, %v; want %+v", l, e, c.acts)
		}
		if len(l) < len(before) || !sameActs(l[:len(before)], before) {
			t.Fatalf("what was synced is gone: %+v of %+v", l, before)
		}
		last := 0
		if len(c.ends) > 0 {
			last = c.ends[len(c.ends)-1]
		}
		c.cut(last)
		wantTape(t, "Recover", z, e, c.tape())
		return z
	}
	a := drawnAct(r)
	y, e := Append(x, a)
	c.data = append(c.data, slowWrite(a)...)
	c.acts, c.ends = append(c.acts, a), append(c.ends, len(c.data))
	wantTape(t, "Append", y, e, c.tape())
	return y
}

// synced acts: those that end ahead of what is not synced.
func synced(c *course) []api.Act {
	n := 0
	for n < len(c.ends) && c.ends[n] <= c.synced {
		n++
	}
	return c.acts[:n]
}

// TestCourses: P16.3 to P16.6: what was synced is recovered behind every crash, and so is what is written then.
func TestCourses(t *testing.T) {
	for seed := range 200 {
		r := rand.New(rand.NewSource(int64(seed)))
		c := &course{}
		var x api.Tape
		for range 80 {
			x = c.step(t, r, x)
			wantRecovered(t, x, c.acts, len(c.data))
			wantSlow(t, x)
		}
	}
}

// TestCrashes: P16.5, P16.6: a tape of some acts, with each number of bytes synced, and each number kept.
func TestCrashes(t *testing.T) {
	r := rand.New(rand.NewSource(5))
	for range 6 {
		b := drawnBytes(r, 5)
		b = b[:min(len(b), 90)]
		for synced := range len(b) + 1 {
			safe, safeEnd := slowActs(b[:synced])
			for keep := range len(b) + 2 {
				x, e := Crash(api.Tape{Data: b, Synced: synced}, keep)
				if e != api.OK || len(x.Data) != min(synced+keep, len(b)) {
					t.Fatalf("%d and %d of %d: %+v, %v", synced, keep, len(b), x, e)
				}
				l, y, e := Recover(x)
				if e != api.OK || len(l) < len(safe) || !sameActs(l[:len(safe)], safe) || len(y.Data) < safeEnd || y.Synced != len(y.Data) {
					t.Fatalf("%d and %d of %v: %+v, %+v, %v", synced, keep, b, l, y, e)
				}
				wantSlow(t, x)
			}
		}
	}
}
