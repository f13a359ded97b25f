package bound

import (
	"fmt"
	"math"
	"math/rand"
	"slices"
	"testing"

	"dotterel/api"
)

const (
	none = api.None
	far  = 1 << 45
	own  = 2 * api.MaxGap
)

// zeros: a matrix of so many points, all of whose bounds are 0.
func zeros(n int) api.Matrix {
	m := make(api.Matrix, n)
	for i := range m {
		m[i] = make([]int, n)
	}
	return m
}

// loose: a matrix of so many points without bounds, but 0 from each to itself.
func loose(n int) api.Matrix {
	m := zeros(n)
	for i := range m {
		for k := range m[i] {
			if i != k {
				m[i][k] = none
			}
		}
	}
	return m
}

// with: a copy of a matrix with one other bound.
func with(m api.Matrix, i, k, n int) api.Matrix {
	c := clone(m)
	c[i][k] = n
	return c
}

func clone(m api.Matrix) api.Matrix {
	c := make(api.Matrix, len(m))
	for i, row := range m {
		c[i] = slices.Clone(row)
	}
	return c
}

func same(a, b api.Matrix) bool { return slices.EqualFunc(a, b, slices.Equal[[]int]) }

// wantMatrix: with OK that matrix, with an error none.
func wantMatrix(t *testing.T, what string, m api.Matrix, e api.Errno, want api.Matrix, wantE api.Errno) {
	t.Helper()
	if e != wantE || !same(m, want) {
		t.Errorf("%s: %v, %v; want %v, %v", what, m, e, want, wantE)
	}
}

// refusals: what each call that takes matrices answers of one; with an error nothing else may come.
func refusals(t *testing.T, m api.Matrix) (check, closed, both, either api.Errno) {
	t.Helper()
	c, e := Close(m)
	b, f := Both(m, m)
	o, g := Either(m, m)
	if e != api.OK && len(c) > 0 || f != api.OK && len(b) > 0 || g != api.OK && len(o) > 0 {
		t.Errorf("%v: an error and a matrix", m)
	}
	return Check(m), e, f, g
}

// TestCheckSizes: P8.1: from no rows to 12, and not one more.
func TestCheckSizes(t *testing.T) {
	for n := 0; n <= 15; n++ {
		want := api.OK
		if n > 12 {
			want = api.ErrSize
		}
		for _, m := range []api.Matrix{zeros(n), loose(n)} {
			if a, b, c, d := refusals(t, m); a != want || b != want || c != want || d != want {
				t.Errorf("%d rows: %v %v %v %v, want %v", n, a, b, c, d, want)
			}
		}
	}
	if Check(nil) != api.OK || Check(api.Matrix{}) != api.OK {
		t.Error("no rows are refused")
	}
	if e := Check(make(api.Matrix, 1<<20)); e != api.ErrSize {
		t.Errorf("many rows: %v", e)
	}
}

// TestCheckForm: P8.1: a row with one bound too few, one too many, and none, at each place.
func TestCheckForm(t *testing.T) {
	for _, n := range []int{1, 2, 3, 12} {
		for i := range n {
			for _, long := range []int{0, n - 1, n + 1, 40} {
				m := zeros(n)
				m[i] = make([]int, long)
				if a, b, c, d := refusals(t, m); a != api.ErrForm || b != api.ErrForm || c != api.ErrForm || d != api.ErrForm {
					t.Errorf("%d rows, row %d has %d bounds: %v %v %v %v", n, i, long, a, b, c, d)
				}
			}
			m := zeros(n)
			m[i] = nil
			if e := Check(m); e != api.ErrForm {
				t.Errorf("%d rows, row %d is nil: %v", n, i, e)
			}
		}
	}
}

// TestCheckRange: P8.1: bounds at their edges, at each place.
func TestCheckRange(t *testing.T) {
	for _, n := range []int{1, 2, 5, 12} {
		for i := range n {
			for k := range n {
				for _, b := range []int{0, 1, -1, own, -own, own + 1, -own - 1, far, -far, none} {
					if e := Check(with(zeros(n), i, k, b)); e != api.OK {
						t.Errorf("%d rows, %d at %d, %d: %v", n, b, i, k, e)
					}
				}
				for _, b := range []int{far + 1, -far - 1, none - 1, none + 1, -none, math.MaxInt, math.MinInt, math.MinInt + 1} {
					if a, c, d, e := refusals(t, with(zeros(n), i, k, b)); a != api.ErrRange || c != api.ErrRange || d != api.ErrRange || e != api.ErrRange {
						t.Errorf("%d rows, %d at %d, %d: %v %v %v %v", n, b, i, k, a, c, d, e)
					}
				}
			}
		}
	}
}

// TestCheckFirst: P8.1: of several errors the one that is named first; rows one by one.
func TestCheckFirst(t *testing.T) {
	thirteen := with(zeros(13), 0, 0, far+1)
	thirteen[1] = nil
	for i, c := range []struct {
		m    api.Matrix
		want api.Errno
	}{
		{thirteen, api.ErrSize},
		{api.Matrix{{far + 1}, {0, 0}}, api.ErrForm},       // in one row the form is ahead
		{api.Matrix{{0, far + 1}, {0}}, api.ErrRange},      // the range of a row is ahead of the form of the next one
		{api.Matrix{{0}, {0, far + 1}}, api.ErrForm},       // and the other way round
		{api.Matrix{{0, 0, far + 1}, {0, 0}}, api.ErrForm}, // a bound beyond the row's end
		{api.Matrix{{0, 0, 0}, {0, 0, -far - 1}, {}}, api.ErrRange},
		{api.Matrix{{0, 0, 0}, {0, 0}, {0, 0, math.MinInt}}, api.ErrForm},
	} {
		if e := Check(c.m); e != c.want {
			t.Errorf("case %d: %v, want %v", i, e, c.want)
		}
	}
}

// TestFree: P8.2.
func TestFree(t *testing.T) {
	for n := range 13 {
		m, e := Free(n)
		wantMatrix(t, fmt.Sprint("Free ", n), m, e, loose(n), api.OK)
	}
	for _, n := range []int{-1, 13, -12, 100, math.MaxInt, math.MinInt} {
		m, e := Free(n)
		wantMatrix(t, fmt.Sprint("Free ", n), m, e, nil, api.ErrSize)
	}
}

// TestClose: P8.3: ways of one, two and more points.
func TestClose(t *testing.T) {
	for i, c := range []struct{ m, want api.Matrix }{
		{nil, nil},
		{api.Matrix{{0}}, api.Matrix{{0}}},
		{api.Matrix{{0, 3}, {none, 0}}, api.Matrix{{0, 3}, {none, 0}}},
		{api.Matrix{{0, -3}, {3, 0}}, api.Matrix{{0, -3}, {3, 0}}}, // there and back: just 0
		{api.Matrix{{0, 2, 9}, {9, 0, 3}, {9, 9, 0}}, api.Matrix{{0, 2, 5}, {9, 0, 3}, {9, 9, 0}}},
		{api.Matrix{{0, 2, 4}, {9, 0, 3}, {9, 9, 0}}, api.Matrix{{0, 2, 4}, {9, 0, 3}, {9, 9, 0}}},                            // the straight way is the lesser one
		{api.Matrix{{0, 2, none}, {none, 0, 3}, {none, none, 0}}, api.Matrix{{0, 2, 5}, {none, 0, 3}, {none, none, 0}}},       // a way where there was no bound
		{api.Matrix{{0, none, 5}, {-2, 0, none}, {none, none, 0}}, api.Matrix{{0, none, 5}, {-2, 0, 3}, {none, none, 0}}},     // by the first point
		{api.Matrix{{0, none, none}, {none, 0, -4}, {-7, none, 0}}, api.Matrix{{0, none, none}, {-11, 0, -4}, {-7, none, 0}}}, // by the last point
		{
			api.Matrix{{0, none, none, 1}, {none, 0, none, none}, {none, 1, 0, none}, {none, none, 1, 0}}, // points against their order
			api.Matrix{{0, 3, 2, 1}, {none, 0, none, none}, {none, 1, 0, none}, {none, 2, 1, 0}},
		},
		{
			api.Matrix{{0, 4, none, none}, {-4, 0, none, none}, {none, none, 0, -1}, {none, none, 6, 0}}, // two pairs that no way joins
			api.Matrix{{0, 4, none, none}, {-4, 0, none, none}, {none, none, 0, -1}, {none, none, 6, 0}},
		},
		{api.Matrix{{0, -1, 9}, {9, 0, -1}, {2, 9, 0}}, api.Matrix{{0, -1, -2}, {1, 0, -1}, {2, 1, 0}}}, // a way of three that comes back at 0
	} {
		m, e := Close(c.m)
		wantMatrix(t, fmt.Sprint("case ", i), m, e, c.want, api.OK)
	}
}

// TestCloseLong: P8.3: a way of all 12 points, forth and back, at the edges of its bounds.
func TestCloseLong(t *testing.T) {
	for _, step := range []int{1, -1, own, -own} {
		for _, back := range []bool{false, true} {
			m, want := loose(12), loose(12)
			for i := range 12 {
				for k := range 12 {
					if i < k != back && i != k {
						want[i][k] = step * max(i-k, k-i)
					}
					if want[i][k] == step {
						m[i][k] = step
					}
				}
			}
			got, e := Close(m)
			wantMatrix(t, fmt.Sprint("step ", step, back), got, e, want, api.OK)
		}
	}
}

// TestCloseRange: P8.3: bounds at their edges, at each place but from a point to itself.
func TestCloseRange(t *testing.T) {
	for _, n := range []int{2, 3, 12} {
		for i := range n {
			for k := range n {
				if i == k {
					continue
				}
				for _, b := range []int{own, -own, own - 1, 0, none} {
					m := with(loose(n), i, k, b)
					got, e := Close(m)
					wantMatrix(t, fmt.Sprint(n, " points, ", b), got, e, m, api.OK)
				}
				for _, b := range []int{own + 1, -own - 1, far, -far} {
					got, e := Close(with(loose(n), i, k, b))
					wantMatrix(t, fmt.Sprint(n, " points, ", b), got, e, nil, api.ErrRange)
				}
			}
		}
	}
}

// TestCloseForm: P8.3: a bound other than 0 from a point to itself, at each place.
func TestCloseForm(t *testing.T) {
	for _, n := range []int{1, 2, 3, 12} {
		for i := range n {
			for _, b := range []int{1, -1, none, own, own + 1, -far} {
				got, e := Close(with(loose(n), i, i, b))
				wantMatrix(t, fmt.Sprint(n, " points, ", b), got, e, nil, api.ErrForm)
			}
		}
	}
}

// TestCloseNever: P8.3: rings of each length, that come back at 0 and at -1, beside points that no way joins.
func TestCloseNever(t *testing.T) {
	r := rand.New(rand.NewSource(8))
	for n := 2; n <= 12; n++ {
		for long := 2; long <= n; long++ {
			ring := r.Perm(n)[:long]
			m := loose(n)
			sum := 0
			for i, p := range ring[:long-1] {
				b := r.Intn(2*own+1) - own
				if sum > 0 {
					b = -r.Intn(own)
				} else if sum < 0 {
					b = r.Intn(own)
				}
				m[p][ring[i+1]] = b
				sum += b
			}
			m[ring[long-1]][ring[0]] = -sum
			got, e := Close(m)
			want, _ := judgeClose(m)
			wantMatrix(t, fmt.Sprint(long, " of ", n, " back at 0"), got, e, want, api.OK)
			if sum == own {
				continue
			}
			got, e = Close(with(m, ring[long-1], ring[0], -sum-1))
			wantMatrix(t, fmt.Sprint(long, " of ", n, " back at -1"), got, e, nil, api.ErrNever)
		}
	}
}

// TestCloseDeepest: P8.3: sums that go down as far as they can do not wrap round.
func TestCloseDeepest(t *testing.T) {
	for n := 2; n <= 12; n++ {
		m := loose(n)
		for i := range m {
			for k := range m {
				if i != k {
					m[i][k] = -own
				}
			}
		}
		got, e := Close(m)
		wantMatrix(t, fmt.Sprint(n, " points"), got, e, nil, api.ErrNever)
	}
}

// TestCloseFirst: P8.3: a matrix with all that may be wrong, mended one by one; row by row.
func TestCloseFirst(t *testing.T) {
	m := api.Matrix{{0, own + 1, -1}, {own + 1, 1, 0}, {1, own + 1, none}}
	if e := closeError(api.Matrix{{1, own + 1, -1}, {own + 1, 1, 0}, {1, far + 1, none}}); e != api.ErrRange {
		t.Errorf("what Check refuses comes first: %v", e)
	}
	if e := closeError(api.Matrix{{1, own + 1, -1}, {own + 1, 1, 0}, {1, 1}}); e != api.ErrForm {
		t.Errorf("what Check refuses comes first: %v", e)
	}
	for i, c := range []struct {
		row, col, n int
		was         api.Errno
	}{
		{0, 1, 0, api.ErrRange}, // ahead of the form of the rows behind it
		{1, 1, 0, api.ErrForm},  // ahead of the range of its own row
		{1, 0, 0, api.ErrRange},
		{2, 2, 0, api.ErrForm},
		{2, 1, -1, api.ErrRange},
		{2, 1, 1, api.ErrNever},
	} {
		if e := closeError(m); e != c.was {
			t.Errorf("step %d: %v, want %v", i, e, c.was)
		}
		m[c.row][c.col] = c.n
	}
	if e := closeError(m); e != api.OK {
		t.Errorf("at the end: %v", e)
	}
}

func closeError(m api.Matrix) api.Errno {
	_, e := Close(m)
	return e
}

// TestBothEither: P8.4: of each pair of bounds the lesser and the greater one, at each place.
func TestBothEither(t *testing.T) {
	l := []int{-far, -own - 1, -1, 0, 1, own + 1, far, none}
	for _, n := range []int{1, 2, 3, 12} {
		for i := range n {
			for k := range n {
				for _, x := range l {
					for _, y := range l {
						a, b := with(zeros(n), i, k, x), with(zeros(n), i, k, y)
						got, e := Both(a, b)
						wantMatrix(t, fmt.Sprint("Both ", x, y), got, e, with(zeros(n), i, k, min(x, y)), api.OK)
						got, e = Either(a, b)
						wantMatrix(t, fmt.Sprint("Either ", x, y), got, e, with(zeros(n), i, k, max(x, y)), api.OK)
					}
				}
			}
		}
	}
	for _, call := range []func(a, b api.Matrix) (api.Matrix, api.Errno){Both, Either} {
		m, e := call(nil, api.Matrix{})
		wantMatrix(t, "no rows", m, e, nil, api.OK)
	}
}

// TestBothEitherRefuse: P8.4: what is wrong with the first one, with the other one, with both; then their numbers of rows.
func TestBothEitherRefuse(t *testing.T) {
	size, form, reach := zeros(13), api.Matrix{{0}, {0, 0}}, api.Matrix{{0, 0}, {0, far + 1}}
	for _, call := range []func(a, b api.Matrix) (api.Matrix, api.Errno){Both, Either} {
		for i, c := range []struct {
			a, b api.Matrix
			want api.Errno
		}{
			{size, zeros(2), api.ErrSize},
			{zeros(2), size, api.ErrSize},
			{form, zeros(2), api.ErrForm},
			{zeros(2), form, api.ErrForm},
			{reach, zeros(2), api.ErrRange},
			{zeros(2), reach, api.ErrRange},
			{size, reach, api.ErrSize},
			{reach, size, api.ErrRange},
			{form, size, api.ErrForm},
			{reach, form, api.ErrRange},
			{form, reach, api.ErrForm},
			{reach, zeros(3), api.ErrRange}, // ahead of the numbers of rows
			{zeros(3), reach, api.ErrRange},
			{zeros(12), size, api.ErrSize},
			{zeros(2), zeros(3), api.ErrForm},
			{zeros(3), zeros(2), api.ErrForm},
			{nil, zeros(1), api.ErrForm},
			{zeros(1), nil, api.ErrForm},
			{zeros(12), zeros(11), api.ErrForm},
		} {
			m, e := call(c.a, c.b)
			wantMatrix(t, fmt.Sprint("case ", i), m, e, nil, c.want)
		}
	}
}
