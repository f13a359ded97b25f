package wheel

import (
	"math"
	"math/rand"
	"slices"
	"sort"
	"testing"

	"dotterel/api"
)

// set, clear and pass: deeds written short.
func set(id, at int) api.Deed { return api.Deed{Kind: api.Set, Id: id, At: at} }
func clear(id int) api.Deed   { return api.Deed{Kind: api.Clear, Id: id} }
func pass(at int) api.Deed    { return api.Deed{Kind: api.Pass, At: at} }

// noTimes: numbers right outside the times, and the farthest ones.
var noTimes = []int{math.MinInt, -1, api.MaxTime + 1, math.MaxInt}

// step of a play: a deed, what it is told, and the timers that are due by it.
type step struct {
	deed api.Deed
	told api.Errno
	due  []int
}

// play steps from a time on, and hold each answer against what the step wants.
func play(t *testing.T, now int, l []step) {
	t.Helper()
	var deeds []api.Deed
	for _, s := range l {
		deeds = append(deeds, s.deed)
	}
	told, due, e := Play(now, deeds)
	if e != api.OK || len(told) != len(l) || len(due) != len(l) {
		t.Fatalf("Play(%d, %v): %v, %v, %v", now, deeds, told, due, e)
	}
	for i, s := range l {
		if told[i] != s.told || !slices.Equal(due[i], s.due) {
			t.Errorf("from %d on, deed %d, %v: %v, %v; want %v, %v", now, i, s.deed, told[i], due[i], s.told, s.due)
		}
	}
}

// slow: the same timers in one list, as they were set.
type slow struct {
	now int
	l   []api.Deed
}

func (s *slow) find(id int) int {
	return slices.IndexFunc(s.l, func(d api.Deed) bool { return d.Id == id })
}

func (s *slow) set(d api.Deed) api.Errno {
	switch {
	case d.Id < 1 || d.Id > api.MaxCount:
		return api.ErrRange
	case d.At <= s.now || d.At > api.MaxTime:
		return api.ErrLate
	case len(s.l) == api.MaxTimers:
		return api.ErrFull
	case s.find(d.Id) >= 0:
		return api.ErrTwice
	}
	s.l = append(s.l, d)
	return api.OK
}

func (s *slow) clear(d api.Deed) api.Errno {
	i := s.find(d.Id)
	if i < 0 {
		return api.ErrNone
	}
	s.l = slices.Delete(s.l, i, i+1)
	return api.OK
}

func (s *slow) pass(d api.Deed) (api.Errno, []int) {
	if d.At < s.now || d.At > api.MaxTime {
		return api.ErrLate, nil
	}
	s.now = d.At
	sorted := slices.Clone(s.l)
	sort.SliceStable(sorted, func(i, j int) bool { return sorted[i].At < sorted[j].At })
	var due []int
	for _, x := range sorted {
		if x.At <= s.now {
			due = append(due, x.Id)
		}
	}
	s.l = slices.DeleteFunc(s.l, func(x api.Deed) bool { return x.At <= s.now })
	return api.OK, due
}

func (s *slow) do(d api.Deed) (api.Errno, []int) {
	switch d.Kind {
	case api.Set:
		return s.set(d), nil
	case api.Clear:
		return s.clear(d), nil
	case api.Pass:
		return s.pass(d)
	}
	return api.ErrKind, nil
}

// besideSlow: each deed's answer held against the slow timers' one.
func besideSlow(t *testing.T, now int, deeds []api.Deed) {
	t.Helper()
	s := slow{now: now}
	var l []step
	for _, d := range deeds {
		told, due := s.do(d)
		l = append(l, step{d, told, due})
	}
	play(t, now, l)
}

// TestPlayRefuses: P2.1, what is refused as a whole.
func TestPlayRefuses(t *testing.T) {
	refused := func(now int, l []api.Deed, want api.Errno) {
		t.Helper()
		told, due, e := Play(now, l)
		if e != want || len(told) != 0 || len(due) != 0 {
			t.Errorf("Play(%d, %d deeds): %v, %v, %v; want %v", now, len(l), told, due, e, want)
		}
	}
	most := make([]api.Deed, api.MaxOps)
	more := make([]api.Deed, api.MaxOps+1)
	for _, now := range noTimes {
		refused(now, nil, api.ErrRange)
		refused(now, most, api.ErrRange)
		refused(now, more, api.ErrRange) // ahead of ErrSize
	}
	for _, now := range []int{0, 7, api.MaxTime} {
		refused(now, more, api.ErrSize)
		refused(now, make([]api.Deed, 3*api.MaxOps), api.ErrSize)
	}
}

// TestPlayTakes: P2.1, the most deeds and none.
func TestPlayTakes(t *testing.T) {
	for _, now := range []int{0, 7, api.MaxTime} {
		told, due, e := Play(now, nil)
		if len(told) != 0 || len(due) != 0 || e != api.OK {
			t.Errorf("Play(%d, nil): %v, %v, %v", now, told, due, e)
		}
		told, due, e = Play(now, make([]api.Deed, api.MaxOps))
		if len(told) != api.MaxOps || len(due) != api.MaxOps || e != api.OK {
			t.Errorf("Play(%d, MaxOps deeds): %d, %d, %v", now, len(told), len(due), e)
		}
	}
}

// TestOneByOne: P2.1, a deed finds what the ones ahead of it left, and no timer is set at the beginning.
func TestOneByOne(t *testing.T) {
	for range 2 { // nothing is kept from play to play
		play(t, 10, []step{
			{clear(1), api.ErrNone, nil},
			{pass(10), api.OK, nil},
			{set(1, 15), api.OK, nil},
			{set(2, 13), api.OK, nil},
			{set(3, 13), api.OK, nil},
			{pass(12), api.OK, nil},
			{set(4, 13), api.OK, nil},
			{clear(3), api.OK, nil},
			{pass(13), api.OK, []int{2, 4}},
			{pass(14), api.OK, nil},
			{set(2, 15), api.OK, nil}, // it was due, and may be set again
			{pass(15), api.OK, []int{1, 2}},
			{pass(api.MaxTime), api.OK, nil},
		})
	}
}

// TestSet: P2.2, the edges of Id and At.
func TestSet(t *testing.T) {
	for _, now := range []int{0, 5, 63, 64, 4095, 1 << 30, api.MaxTime - 2, api.MaxTime - 1} {
		play(t, now, []step{
			{set(1, now+1), api.OK, nil},
			{set(api.MaxCount, api.MaxTime), api.OK, nil},
			{set(0, now+1), api.ErrRange, nil},
			{set(-1, now+1), api.ErrRange, nil},
			{set(math.MinInt, now+1), api.ErrRange, nil},
			{set(api.MaxCount+1, now+1), api.ErrRange, nil},
			{set(math.MaxInt, now+1), api.ErrRange, nil},
			{set(2, now), api.ErrLate, nil},
			{set(2, now-1), api.ErrLate, nil},
			{set(2, 0), api.ErrLate, nil},
			{set(2, -1), api.ErrLate, nil},
			{set(2, math.MinInt), api.ErrLate, nil},
			{set(2, api.MaxTime+1), api.ErrLate, nil},
			{set(2, math.MaxInt), api.ErrLate, nil},
			{pass(api.MaxTime), api.OK, []int{1, api.MaxCount}},
		})
	}
	play(t, api.MaxTime, []step{ // nothing is behind the last time
		{set(1, api.MaxTime), api.ErrLate, nil},
		{set(1, api.MaxTime+1), api.ErrLate, nil},
		{pass(api.MaxTime), api.OK, nil},
	})
}

// TestSetTwice: P2.2, a timer that is set stays as it was set, with its time and its turn.
func TestSetTwice(t *testing.T) {
	play(t, 0, []step{
		{set(1, 9), api.OK, nil},
		{set(2, 9), api.OK, nil},
		{set(1, 9), api.ErrTwice, nil},
		{set(1, 5), api.ErrTwice, nil},
		{set(1, 5000), api.ErrTwice, nil},
		{pass(8), api.OK, nil},
		{set(1, 9), api.ErrTwice, nil},
		{pass(9), api.OK, []int{1, 2}},
		{set(1, 10), api.OK, nil},
		{pass(5000), api.OK, []int{1}},
	})
}

// TestSetOrder: P2.2, the error that is named first.
func TestSetOrder(t *testing.T) {
	l := []step{
		{set(0, 100), api.ErrRange, nil}, // late, too
		{set(0, api.MaxTime+1), api.ErrRange, nil},
	}
	for i := range api.MaxTimers {
		l = append(l, step{set(i+1, 200), api.OK, nil})
	}
	l = append(l,
		step{set(0, 200), api.ErrRange, nil}, // full, too
		step{set(0, 100), api.ErrRange, nil}, // late and full, too
		step{set(1, 100), api.ErrLate, nil},  // full and set, too
		step{set(api.MaxCount, 100), api.ErrLate, nil},
		step{set(1, api.MaxTime+1), api.ErrLate, nil},
		step{set(1, 200), api.ErrFull, nil}, // set, too
		step{set(api.MaxCount, 200), api.ErrFull, nil},
		step{clear(2), api.OK, nil},
		step{set(1, 100), api.ErrLate, nil}, // set, too
		step{set(1, 200), api.ErrTwice, nil},
		step{set(2, 200), api.OK, nil},
		step{set(2, 200), api.ErrFull, nil},
	)
	play(t, 100, l)
}

// TestFull: P2.2, there is room for MaxTimers, and again when one is cleared or due.
func TestFull(t *testing.T) {
	var l []step
	for i := range api.MaxTimers {
		l = append(l, step{set(i+1, 10+i), api.OK, nil})
	}
	l = append(l,
		step{set(5000, 99), api.ErrFull, nil},
		step{pass(9), api.OK, nil},
		step{set(5000, 99), api.ErrFull, nil},
		step{pass(11), api.OK, []int{1, 2}},
		step{set(5000, 12), api.OK, nil},
		step{set(5001, 12), api.OK, nil},
		step{set(5002, 12), api.ErrFull, nil},
		step{clear(3), api.OK, nil},
		step{set(5002, 12), api.OK, nil},
		step{clear(3), api.ErrNone, nil},
		step{set(5003, 12), api.ErrFull, nil},
		step{pass(12), api.OK, []int{5000, 5001, 5002}},
	)
	play(t, 0, l)
}

// TestClear: P2.3.
func TestClear(t *testing.T) {
	play(t, 0, []step{
		{set(1, 5), api.OK, nil},
		{set(2, 5), api.OK, nil},
		{set(3, 5), api.OK, nil},
		{set(4, 5000), api.OK, nil},
		{clear(1), api.OK, nil},
		{clear(1), api.ErrNone, nil},
		{clear(3), api.OK, nil},
		{clear(5), api.ErrNone, nil},
		{set(1, 5), api.OK, nil}, // set anew, it is behind the other one
		{pass(4999), api.OK, []int{2, 1}},
		{clear(1), api.ErrNone, nil}, // it was due
		{clear(2), api.ErrNone, nil},
		{clear(4), api.OK, nil},
		{pass(5000), api.OK, nil},
	})
	for _, id := range []int{math.MinInt, -1, 0, api.MaxCount + 1, math.MaxInt} {
		play(t, 0, []step{{set(1, 5), api.OK, nil}, {clear(id), api.ErrNone, nil}, {pass(5), api.OK, []int{1}}})
	}
	play(t, 0, []step{{set(api.MaxCount, 5), api.OK, nil}, {clear(api.MaxCount), api.OK, nil}, {pass(5), api.OK, nil}})
}

// TestClearAway: P2.3, the At of a Clear does not count, and a time that is far away is no matter.
func TestClearAway(t *testing.T) {
	for _, at := range []int{1, 63, 64, 65, 4096, 1 << 24, 1 << 36, api.MaxTime} {
		play(t, 0, []step{
			{set(7, at), api.OK, nil},
			{set(8, at), api.OK, nil},
			{api.Deed{Kind: api.Clear, Id: 7, At: -1}, api.OK, nil},
			{pass(api.MaxTime), api.OK, []int{8}},
		})
	}
}

// TestPass: P2.4, up to a time and no further, by the times, and those of the same time as they were set.
func TestPass(t *testing.T) {
	play(t, 3, []step{
		{set(9, 20), api.OK, nil},
		{set(5, 20), api.OK, nil},
		{set(7, 10), api.OK, nil},
		{set(1, 21), api.OK, nil},
		{set(6, 20), api.OK, nil},
		{set(2, 10), api.OK, nil},
		{pass(3), api.OK, nil}, // now itself
		{pass(9), api.OK, nil},
		{pass(20), api.OK, []int{7, 2, 9, 5, 6}},
		{pass(20), api.OK, nil}, // they are set no more
		{api.Deed{Kind: api.Pass, Id: -1, At: 21}, api.OK, []int{1}},
	})
}

// TestPassWhereSet: P2.4, the order of those of the same time hangs on when they were set, not on where they stood ahead of it.
func TestPassWhereSet(t *testing.T) {
	for _, at := range []int{70, 4100, 1<<18 + 3, 1 << 24, 1 << 36, api.MaxTime} {
		play(t, 0, []step{
			{set(3, at), api.OK, nil},
			{pass(at - 60), api.OK, nil},
			{set(2, at), api.OK, nil},
			{pass(at - 5), api.OK, nil},
			{set(1, at), api.OK, nil},
			{set(4, at-1), api.OK, nil},
			{pass(at - 2), api.OK, nil},
			{pass(at), api.OK, []int{4, 3, 2, 1}},
		})
	}
}

// TestPassLate: P2.4, a time that is past, and what is none: now stays, and so do the timers.
func TestPassLate(t *testing.T) {
	for _, now := range []int{1, 50, 64, 4096, api.MaxTime - 1} {
		l := []step{{set(1, now+1), api.OK, nil}}
		for _, at := range append([]int{now - 1, 0}, noTimes...) {
			l = append(l, step{pass(at), api.ErrLate, nil}, step{set(2, now), api.ErrLate, nil})
		}
		l = append(l, step{pass(now), api.OK, nil}, step{pass(now + 1), api.OK, []int{1}}, step{pass(now), api.ErrLate, nil})
		play(t, now, l)
	}
}

// TestKinds: P2.4, there are no other kinds, and what is refused does nothing.
func TestKinds(t *testing.T) {
	for _, kind := range []int{math.MinInt, -1, 0, api.Pass + 1, math.MaxInt} {
		play(t, 0, []step{
			{set(1, 5), api.OK, nil},
			{api.Deed{Kind: kind, Id: 2, At: 9}, api.ErrKind, nil},
			{api.Deed{Kind: kind, Id: 1}, api.ErrKind, nil},
			{api.Deed{Kind: kind, Id: -1, At: -1}, api.ErrKind, nil},
			{set(3, 5), api.OK, nil},
			{pass(9), api.OK, []int{1, 3}},
			{clear(2), api.ErrNone, nil},
		})
	}
}

// TestRefusedDoNothing: P2.4, a timer that was refused is not set, and one that was not cleared is.
func TestRefusedDoNothing(t *testing.T) {
	play(t, 10, []step{
		{set(1, 10), api.ErrLate, nil},
		{clear(1), api.ErrNone, nil},
		{set(1, api.MaxTime+1), api.ErrLate, nil},
		{clear(1), api.ErrNone, nil},
		{set(api.MaxCount+1, 20), api.ErrRange, nil},
		{clear(api.MaxCount + 1), api.ErrNone, nil},
		{set(1, 20), api.OK, nil},
		{pass(9), api.ErrLate, nil},
		{set(2, 10), api.ErrLate, nil},
		{pass(api.MaxTime + 1), api.ErrLate, nil},
		{set(2, 11), api.OK, nil},
		{pass(api.MaxTime), api.OK, []int{2, 1}},
	})
}

// farTimes: times about the turns of the wheels, and the first and last ones.
func farTimes() []int {
	out := []int{1, 2, api.MaxTime - 1, api.MaxTime}
	for b := 2; b < 40; b++ {
		out = append(out, 1<<b-1, 1<<b, 1<<b+1)
	}
	return out
}

// TestFarAway: P2.2 and P2.4, a timer that is far away is due at its time, not one ahead of it, from each time on.
func TestFarAway(t *testing.T) {
	far := append(farTimes(), 0)
	for _, now := range far {
		for _, at := range far {
			if at <= now {
				continue
			}
			play(t, now, []step{{set(1, at), api.OK, nil}, {pass(at - 1), api.OK, nil}, {pass(at), api.OK, []int{1}}, {pass(api.MaxTime), api.OK, nil}})
		}
	}
}

// TestSteps: what comes of it: in one step or in many the same timers are due, in the same order.
func TestSteps(t *testing.T) {
	r := rand.New(rand.NewSource(2))
	for range 200 {
		width := []int{50, 300, 5000, 1 << 20, api.MaxTime / 2}[r.Intn(5)]
		now := r.Intn(width)
		var sets []api.Deed
		for i := range 1 + r.Intn(60) {
			sets = append(sets, set(i+1, now+1+r.Intn(width)/(1+r.Intn(3))))
		}
		end := now + 1 + r.Intn(width)
		_, once, _ := Play(now, append(slices.Clone(sets), pass(end)))
		var stops []int
		for range r.Intn(80) {
			stops = append(stops, now+r.Intn(end-now))
		}
		slices.Sort(stops)
		deeds := sets
		for _, at := range append(stops, end) {
			deeds = append(deeds, pass(at))
		}
		_, many, _ := Play(now, deeds)
		if got, want := slices.Concat(many...), once[len(once)-1]; !slices.Equal(got, want) {
			t.Errorf("from %d on to %d, by %v: %v; in one step %v", now, end, stops, got, want)
		}
	}
}

// TestEachStep: one time after another, beside the slow timers, across turns of three wheels.
func TestEachStep(t *testing.T) {
	for _, now := range []int{0, 60, 64, 4000, 1<<18 - 200, api.MaxTime - 1500} {
		var deeds []api.Deed
		for i := range 400 {
			deeds = append(deeds, set(i+1, min(now+1+i*i*7%1500, api.MaxTime)))
		}
		for i := range 1500 {
			deeds = append(deeds, pass(now+i))
		}
		besideSlow(t, now, deeds)
	}
}

// TestDrawn: drawn deeds, beside the slow timers.
func TestDrawn(t *testing.T) {
	r := rand.New(rand.NewSource(1))
	for range 400 {
		width := []int{20, 200, 5000, 300000, 1 << 30, api.MaxTime}[r.Intn(6)]
		now := r.Intn(width)
		names := []int{3, 20, 3000}[r.Intn(3)]
		at := now
		var deeds []api.Deed
		for range r.Intn(300) {
			d := api.Deed{Kind: 1 + r.Intn(3), Id: 1 + r.Intn(names)}
			switch {
			case r.Intn(30) == 0:
				d = api.Deed{Kind: r.Intn(6) - 1, Id: r.Intn(5) - 2, At: []int{-1, 0, at, at - 1, api.MaxTime, api.MaxTime + 1, math.MinInt}[r.Intn(7)]}
			case d.Kind == api.Set:
				d.At = at + r.Intn(width>>r.Intn(5)+1)
			case d.Kind == api.Pass:
				d.At = at + r.Intn(width>>(2+r.Intn(20))+1)
			}
			if d.Kind == api.Pass && d.At > at && d.At <= api.MaxTime {
				at = d.At
			}
			deeds = append(deeds, d)
		}
		besideSlow(t, now, deeds)
	}
}

// TestMany: as many timers as may be, cleared and set anew, beside the slow ones.
func TestMany(t *testing.T) {
	r := rand.New(rand.NewSource(3))
	for range 5 {
		var deeds []api.Deed
		for i := range api.MaxTimers + 10 {
			deeds = append(deeds, set(i+1, 1+r.Intn(200)))
		}
		for range 480 {
			id := 1 + r.Intn(api.MaxTimers)
			deeds = append(deeds, clear(id), set(id, 1+r.Intn(200)))
		}
		deeds = append(deeds, pass(100), pass(150), pass(200))
		besideSlow(t, 0, deeds)
	}
}

// TestLists: what is handed in is not changed, and no two lists of an answer share memory, spare room neither.
func TestLists(t *testing.T) {
	deeds := []api.Deed{set(1, 5), set(2, 5), set(3, 9), pass(5), pass(9), pass(20), set(4, 30), pass(30)}
	room := append(slices.Clone(deeds), make([]api.Deed, 8)...)
	_, due, _ := Play(0, room[:len(deeds)])
	if !slices.Equal(room[:len(deeds)], deeds) || slices.ContainsFunc(room[len(deeds):], func(d api.Deed) bool { return d != api.Deed{} }) {
		t.Errorf("handed in %v, left %v", deeds, room)
	}
	want := [][]int{{}, {}, {}, {1, 2}, {3}, {}, {}, {4}}
	for i := range due {
		whole := due[i][:cap(due[i])]
		for j := range whole {
			whole[j] = -1
		}
		for k := i + 1; k < len(due); k++ {
			if !slices.Equal(due[k], want[k]) {
				t.Errorf("list %d was changed through list %d: %v", k, i, due[k])
			}
		}
	}
}
