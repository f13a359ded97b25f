package bound

import (
	"fmt"
	"math"
	"math/rand"
	"slices"
	"testing"

	"dotterel/api"
)

// judge: what Check answers, read from the chapter.
func judge(m api.Matrix) api.Errno {
	if len(m) > 12 {
		return api.ErrSize
	}
	for _, row := range m {
		if len(row) != len(m) {
			return api.ErrForm
		}
		for _, n := range row {
			if n != none && (n > far || n < -far) {
				return api.ErrRange
			}
		}
	}
	return api.OK
}

// judgeClose: what Close answers, by distances from each point (bound after bound, as often as there are points; once more, and nothing may change).
func judgeClose(m api.Matrix) (api.Matrix, api.Errno) {
	if e := judge(m); e != api.OK {
		return nil, e
	}
	for i, row := range m {
		if row[i] != 0 {
			return nil, api.ErrForm
		}
		for _, n := range row {
			if n != none && (n > own || n < -own) {
				return nil, api.ErrRange
			}
		}
	}
	out := make(api.Matrix, len(m))
	for from := range m {
		to := loose(len(m))[from]
		for range m {
			reach(m, to)
		}
		if again := slices.Clone(to); reach(m, again) {
			return nil, api.ErrNever
		}
		out[from] = to
	}
	return out, api.OK
}

// reach: each bound once; does anything change?
func reach(m api.Matrix, to []int) bool {
	changed := false
	for i := range m {
		for k, n := range m[i] {
			if to[i] != none && n != none && to[i]+n < to[k] {
				to[k], changed = to[i]+n, true
			}
		}
	}
	return changed
}

// drawn: a matrix that Close may be given, mostly with ways; some come back below 0.
func drawn(r *rand.Rand, n int) api.Matrix {
	m := loose(n)
	full, low, high := 1+r.Intn(10), 1+r.Intn(5), 1+r.Intn(30)
	if r.Intn(4) == 0 {
		low, high = 1+r.Intn(own), own
	}
	at := r.Perm(n) // a time for each point, so that bounds of some matrices all hold of it
	kind := r.Intn(3)
	for i := range m {
		for k := range m[i] {
			if i == k || r.Intn(10) >= full {
				continue
			}
			switch kind {
			case 0:
				m[i][k] = r.Intn(high+low+1) - low
			case 1:
				m[i][k] = at[i] - at[k] + r.Intn(3)
			default:
				m[i][k] = min(own, max(-own, (at[i]-at[k])*(own/12)))
			}
		}
	}
	return m
}

// spoil one thing of a matrix.
func spoil(r *rand.Rand, m api.Matrix) api.Matrix {
	m = clone(m)
	odd := []int{none, none - 1, none + 1, far, far + 1, -far, -far - 1, own, own + 1, -own, -own - 1, 1, -1, 0, math.MinInt, math.MaxInt}
	if len(m) == 0 {
		return zeros(13)
	}
	i := r.Intn(len(m))
	switch r.Intn(6) {
	case 0:
		m[i] = append(m[i], odd[r.Intn(len(odd))])
	case 1:
		m[i] = m[i][:r.Intn(len(m[i])+1)]
	case 2:
		m = append(m, make([]int, len(m)+1))
	case 3:
		if i < len(m[i]) {
			m[i][i] = odd[r.Intn(len(odd))]
		}
	default:
		if len(m[i]) > 0 {
			m[i][r.Intn(len(m[i]))] = odd[r.Intn(len(odd))]
		}
	}
	return m
}

// holdAll: Check, Close, Both and Either of two matrices, against the judge.
func holdAll(t *testing.T, a, b api.Matrix) {
	t.Helper()
	if e := Check(a); e != judge(a) {
		t.Fatalf("Check %v: %v, want %v", a, e, judge(a))
	}
	m, e := Close(a)
	want, wantE := judgeClose(a)
	wantMatrix(t, fmt.Sprint("Close ", a), m, e, want, wantE)
	low, high, wantE := judgePair(a, b)
	m, e = Both(a, b)
	wantMatrix(t, fmt.Sprint("Both ", a, b), m, e, low, wantE)
	m, e = Either(a, b)
	wantMatrix(t, fmt.Sprint("Either ", a, b), m, e, high, wantE)
}

// judgePair: what Both and Either answer.
func judgePair(a, b api.Matrix) (low, high api.Matrix, e api.Errno) {
	if e := judge(a); e != api.OK {
		return nil, nil, e
	}
	if e := judge(b); e != api.OK {
		return nil, nil, e
	}
	if len(a) != len(b) {
		return nil, nil, api.ErrForm
	}
	low, high = clone(a), clone(a)
	for i := range b {
		for k, n := range b[i] {
			if n < low[i][k] {
				low[i][k] = n
			} else {
				high[i][k] = n
			}
		}
	}
	return low, high, api.OK
}

// TestJudge: P8.1, P8.3, P8.4: drawn matrices, whole and spoilt, against the judge.
func TestJudge(t *testing.T) {
	r := rand.New(rand.NewSource(88))
	told := [18]int{}
	for range 12000 {
		n := r.Intn(13)
		a, b := drawn(r, n), drawn(r, n)
		for r.Intn(3) == 0 {
			a = spoil(r, a)
		}
		for r.Intn(3) == 0 {
			b = spoil(r, b)
		}
		holdAll(t, a, b)
		told[closeError(a)]++
	}
	for _, e := range []api.Errno{api.OK, api.ErrSize, api.ErrForm, api.ErrRange, api.ErrNever} {
		if told[e] < 100 {
			t.Errorf("Close told %v but %d times: %v", e, told[e], told)
		}
	}
}

// allowed: does a matrix allow these times of its points?
func allowed(m api.Matrix, at []int) bool {
	for i := range m {
		for k, n := range m[i] {
			if n != none && at[i]-at[k] > n {
				return false
			}
		}
	}
	return true
}

// TestAllowed: P8.3: what a matrix allows stays allowed when it is closed, and nothing more becomes so; what is closed stays as it is; what can never be allows nothing.
func TestAllowed(t *testing.T) {
	r := rand.New(rand.NewSource(83))
	for range 300 {
		m := loose(4)
		for i := range m {
			for k := range m[i] {
				if i != k && r.Intn(3) > 0 {
					m[i][k] = r.Intn(7) - 3
				}
			}
		}
		c, e := Close(m)
		any := false
		for code := range 7 * 7 * 7 * 7 {
			at := []int{code % 7, code / 7 % 7, code / 49 % 7, code / 343}
			was := allowed(m, at)
			any = any || was
			if e == api.OK && allowed(c, at) != was {
				t.Fatalf("%v allows %v: %v; closed, %v: %v", m, at, was, c, !was)
			}
		}
		if e != api.OK && (e != api.ErrNever || any) {
			t.Fatalf("%v: %v, and something is allowed: %v", m, e, any)
		}
		if again, f := Close(c); e == api.OK && (f != api.OK || !same(again, c)) {
			t.Fatalf("%v closed again is %v, %v", c, again, f)
		}
	}
}

// TestReached: P8.3: the bounds are the least ones: each of them is reached by times that all the others allow.
func TestReached(t *testing.T) {
	r := rand.New(rand.NewSource(33))
	for range 2000 {
		m := drawn(r, 1+r.Intn(12))
		c, e := Close(m)
		if e != api.OK {
			continue
		}
		for i := range c {
			for k, n := range c[i] {
				far := n
				if n == none {
					far = 12 * own
				}
				// The two points held together, closed by the judge without the limits of Close.
				tight := with(m, k, i, min(m[k][i], -far))
				to := loose(len(m))[k]
				for range m {
					reach(tight, to)
				}
				if reach(tight, slices.Clone(to)) {
					t.Fatalf("%v: the bound %d at %d, %d is not reached", m, n, i, k)
				}
			}
		}
	}
}

// TestUnchanged: none of the calls changes what it is given, nor its spare room; the answer shares nothing with it, nor its rows with one another.
func TestUnchanged(t *testing.T) {
	r := rand.New(rand.NewSource(6))
	for range 2000 {
		n := r.Intn(13)
		a, b := roomy(r, drawn(r, n)), roomy(r, drawn(r, n))
		if r.Intn(4) == 0 {
			b = a // one matrix handed in twice
		}
		if r.Intn(6) == 0 {
			a = roomy(r, spoil(r, a))
		}
		ca, cb := whole(a), whole(b)
		Check(a)
		closed, _ := Close(a)
		both, _ := Both(a, b)
		either, _ := Either(a, b)
		free, _ := Free(n)
		l := []api.Option{opt(1+r.Intn(13), r.Intn(2), -1), opt(1+r.Intn(13), 0, 1+r.Intn(3)), opt(99, 99, 99)}
		options, _ := Options(l[:2])
		answers := []api.Matrix{closed, both, either, free, options}
		for i, m := range answers {
			kept := make([]string, len(answers))
			for k := range answers {
				kept[k] = fmt.Sprint(answers[k])
			}
			scribble(t, m)
			for k := range answers {
				if k != i && fmt.Sprint(answers[k]) != kept[k] {
					t.Fatalf("answers %d and %d share memory", i, k)
				}
			}
		}
		if !same(whole(a), ca) || !same(whole(b), cb) || l[2] != opt(99, 99, 99) {
			t.Fatal("what was handed in is changed")
		}
	}
}

// roomy: a matrix whose rows, and itself, have spare room, with numbers in it.
func roomy(r *rand.Rand, m api.Matrix) api.Matrix {
	out := make(api.Matrix, 0, len(m)+2)
	for _, row := range m {
		l := append(append(make([]int, 0, len(row)+3), row...), r.Int(), r.Int())
		out = append(out, l[:len(row)])
	}
	return append(out, []int{r.Int()})[:len(m)]
}

// whole: a copy of a matrix with all its spare room.
func whole(m api.Matrix) api.Matrix {
	out := clone(m[:cap(m)])
	for i, row := range m[:cap(m)] {
		out[i] = slices.Clone(row[:cap(row)])
	}
	return out
}

// scribble over each row of an answer, spare room too: the other rows stay as they are.
func scribble(t *testing.T, m api.Matrix) {
	t.Helper()
	for i := range m {
		was := whole(m)
		row := m[i][:cap(m[i])]
		for k := range row {
			row[k] = -7
		}
		for k, l := range m {
			if k != i && !slices.Equal(l[:cap(l)], was[k]) {
				t.Fatalf("rows %d and %d share memory", i, k)
			}
		}
	}
}

// FuzzMatrix: P8.1, P8.3, P8.4: any matrices against the judge; no call panics.
func FuzzMatrix(f *testing.F) {
	f.Add(int64(1), uint8(3), []byte{1, 2, 3})
	f.Add(int64(2), uint8(12), []byte{255, 0, 9, 14, 3, 3, 90})
	f.Add(int64(3), uint8(0), []byte{})
	f.Fuzz(func(t *testing.T, seed int64, n uint8, l []byte) {
		r := rand.New(rand.NewSource(seed))
		a, b := drawn(r, int(n%14)), drawn(r, int(n%14))
		for i, x := range l[:min(len(l), 40)] {
			switch {
			case x%8 == 0:
				a = spoil(r, a)
			case x%8 == 1:
				b = spoil(r, b)
			case len(a) > 0 && len(a[i%len(a)]) > 0:
				row := a[i%len(a)]
				row[int(x)%len(row)] = int(x) - 100
			}
		}
		holdAll(t, a, b)
	})
}
