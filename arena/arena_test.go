package arena

import (
	"math"
	"math/rand"
	"slices"
	"testing"

	"dotterel/api"
)

// lend, look, back and count: jobs written short.
func lend(number int) api.Job { return api.Job{Kind: api.Lend, Number: number} }
func look(place, turn int) api.Job {
	return api.Job{Kind: api.Look, Handle: api.Handle{Place: place, Turn: turn}}
}
func back(place, turn int) api.Job {
	return api.Job{Kind: api.Back, Handle: api.Handle{Place: place, Turn: turn}}
}
func count() api.Job { return api.Job{Kind: api.Count} }

// lent, number and refused: what is found, written short.
func lent(place, turn int) api.Found   { return api.Found{Handle: api.Handle{Place: place, Turn: turn}} }
func number(n int) api.Found           { return api.Found{Number: n} }
func refused(code api.Errno) api.Found { return api.Found{Code: code} }

// step of a play: a job, and what it finds.
type step struct {
	job  api.Job
	want api.Found
}

// play steps, and hold what each job finds against what the step wants.
func play(t *testing.T, l []step) {
	t.Helper()
	var jobs []api.Job
	for _, s := range l {
		jobs = append(jobs, s.job)
	}
	found, e := Play(jobs)
	if e != api.OK || len(found) != len(l) {
		t.Fatalf("Play(%v): %v, %v", jobs, found, e)
	}
	for i, s := range l {
		if found[i] != s.want {
			t.Errorf("job %d, %v: %v, want %v", i, s.job, found[i], s.want)
		}
	}
}

// slow: all that was ever lent and given back, in one list; whatever is asked is found by going through it.
type slow []slowJob

// slowJob: a handle that was lent, with its number, or (back) given back.
type slowJob struct {
	handle api.Handle
	number int
	back   bool
}

// turns of a place: how often it was lent.
func (s slow) turns(place int) int {
	n := 0
	for _, j := range s {
		if j.handle.Place == place && !j.back {
			n++
		}
	}
	return n
}

// number that a handle finds, 0: it was given back, -1: there never was such a handle.
func (s slow) number(h api.Handle) int {
	n := -1
	for _, j := range s {
		if j.handle == h {
			n = j.number
		}
	}
	return n
}

// keeps: does the place keep something?
func (s slow) keeps(place int) bool {
	return s.number(api.Handle{Place: place, Turn: s.turns(place)}) > 0
}

// next place that is lent.
func (s slow) next() int {
	seen := map[int]int{}
	for _, j := range slices.Backward(s) {
		// A place whose latest job is a Back is free, and the first such one from the end on was given back last.
		if seen[j.handle.Place] == 0 && j.back {
			return j.handle.Place
		}
		seen[j.handle.Place]++
	}
	return len(seen)
}

func (s slow) count() int {
	n := 0
	for i := 0; s.turns(i) > 0; i++ {
		if s.keeps(i) {
			n++
		}
	}
	return n
}

func (s *slow) do(j api.Job) api.Found {
	switch j.Kind {
	case api.Count:
		return number(s.count())
	case api.Lend:
		if j.Number < 1 || j.Number > api.MaxCount {
			return refused(api.ErrRange)
		}
		if s.count() == api.MaxLive {
			return refused(api.ErrFull)
		}
		place := s.next()
		h := api.Handle{Place: place, Turn: s.turns(place) + 1}
		*s = append(*s, slowJob{handle: h, number: j.Number})
		return api.Found{Handle: h}
	case api.Look, api.Back:
		n := s.number(j.Handle)
		if n < 0 {
			return refused(api.ErrNone)
		}
		if n == 0 {
			return refused(api.ErrGone)
		}
		if j.Kind == api.Back {
			*s = append(*s, slowJob{handle: j.Handle, back: true})
		}
		return number(n)
	}
	return refused(api.ErrKind)
}

// besideSlow: what each job finds held against what the slow list finds.
func besideSlow(t *testing.T, jobs []api.Job) {
	t.Helper()
	var s slow
	var l []step
	for _, j := range jobs {
		l = append(l, step{j, s.do(j)})
	}
	play(t, l)
}

// full: MaxLive places, each keeping a number of its own.
func full() []step {
	var l []step
	for i := range api.MaxLive {
		l = append(l, step{lend(100 + i), lent(i, 1)})
	}
	return l
}

// TestPlayRefuses: P3.1, more than MaxOps jobs, whatever they are.
func TestPlayRefuses(t *testing.T) {
	for _, n := range []int{api.MaxOps + 1, api.MaxOps + 2, 3 * api.MaxOps} {
		for _, j := range []api.Job{{}, count(), lend(1), lend(0), look(0, 1)} {
			if found, e := Play(slices.Repeat([]api.Job{j}, n)); e != api.ErrSize || len(found) != 0 {
				t.Errorf("Play(%d times %v): %d found, %v", n, j, len(found), e)
			}
		}
	}
}

// TestPlayTakes: P3.1, just MaxOps jobs, and none at all.
func TestPlayTakes(t *testing.T) {
	for _, l := range [][]api.Job{nil, {}} {
		if found, e := Play(l); e != api.OK || len(found) != 0 {
			t.Errorf("Play of no jobs: %v, %v", found, e)
		}
	}
	for _, n := range []int{api.MaxOps - 1, api.MaxOps} {
		found, e := Play(append(slices.Repeat([]api.Job{count()}, n-2), lend(5), count()))
		if e != api.OK || len(found) != n || found[n-2] != lent(0, 1) || found[n-1] != number(1) {
			t.Errorf("Play of %d jobs: %d found, %v", n, len(found), e)
		}
	}
}

// TestOneByOne: P3.1, a job finds what the ones ahead of it left, and there are no places at the beginning.
func TestOneByOne(t *testing.T) {
	for range 2 { // nothing is kept from play to play
		play(t, []step{
			{count(), number(0)},
			{look(0, 1), refused(api.ErrNone)},
			{back(0, 1), refused(api.ErrNone)},
			{lend(7), lent(0, 1)},
			{look(0, 1), number(7)},
			{lend(7), lent(1, 1)}, // the same number may be kept twice
			{count(), number(2)},
			{back(0, 1), number(7)},
			{count(), number(1)},
			{look(0, 1), refused(api.ErrGone)},
			{look(1, 1), number(7)},
			{lend(9), lent(0, 2)},
			{look(0, 2), number(9)},
			{look(0, 1), refused(api.ErrGone)},
		})
	}
}

// TestOnlyWhatCounts: P3.1 to P3.4, a job's other fields say nothing, and what is not told is 0.
func TestOnlyWhatCounts(t *testing.T) {
	play(t, []step{
		{api.Job{Kind: api.Lend, Number: 3, Handle: api.Handle{Place: 8, Turn: -2}}, lent(0, 1)},
		{api.Job{Kind: api.Look, Number: -1, Handle: api.Handle{Turn: 1}}, number(3)},
		{api.Job{Kind: api.Count, Number: -1, Handle: api.Handle{Place: 8, Turn: 8}}, number(1)},
		{api.Job{Kind: api.Back, Number: api.MaxCount + 1, Handle: api.Handle{Turn: 1}}, number(3)},
		{api.Job{Kind: api.Count, Number: 6, Handle: api.Handle{Place: -1}}, number(0)},
	})
}

// TestLendNumbers: P3.2, the edges of Number, and that a refused Lend lends nothing.
func TestLendNumbers(t *testing.T) {
	play(t, []step{
		{lend(1), lent(0, 1)},
		{lend(0), refused(api.ErrRange)},
		{lend(-1), refused(api.ErrRange)},
		{lend(math.MinInt), refused(api.ErrRange)},
		{lend(api.MaxCount + 1), refused(api.ErrRange)},
		{lend(math.MaxInt), refused(api.ErrRange)},
		{count(), number(1)},
		{look(1, 1), refused(api.ErrNone)},
		{lend(api.MaxCount), lent(1, 1)},
		{look(0, 1), number(1)},
		{look(1, 1), number(api.MaxCount)},
		{back(0, 1), number(1)},
		{lend(0), refused(api.ErrRange)}, // the free place stays free, its turn as it was
		{lend(api.MaxCount + 1), refused(api.ErrRange)},
		{look(0, 2), refused(api.ErrNone)},
		{look(0, 1), refused(api.ErrGone)},
		{lend(2), lent(0, 2)},
	})
}

// TestLendPlaces: P3.2, the free place that was given back last comes first, and a new one only when none is free.
func TestLendPlaces(t *testing.T) {
	play(t, []step{
		{lend(10), lent(0, 1)},
		{lend(11), lent(1, 1)},
		{lend(12), lent(2, 1)},
		{lend(13), lent(3, 1)},
		{back(2, 1), number(12)},
		{back(0, 1), number(10)},
		{back(3, 1), number(13)},
		{lend(20), lent(3, 2)},
		{back(1, 1), number(11)},
		{lend(21), lent(1, 2)},
		{lend(22), lent(0, 2)},
		{back(0, 2), number(22)},
		{lend(23), lent(0, 3)},
		{lend(24), lent(2, 2)},
		{lend(25), lent(4, 1)}, // a new place is behind all, its turn its own
		{lend(26), lent(5, 1)},
		{look(0, 3), number(23)},
		{look(1, 2), number(21)},
		{look(2, 2), number(24)},
		{look(3, 2), number(20)},
		{look(4, 1), number(25)},
		{count(), number(6)},
	})
}

// TestLendOrders: P3.2, places that are given back in each order are lent again from the last one on.
func TestLendOrders(t *testing.T) {
	r := rand.New(rand.NewSource(4))
	for range 50 {
		l := full()
		order := r.Perm(api.MaxLive)
		for _, p := range order {
			l = append(l, step{back(p, 1), number(100 + p)})
		}
		for i, p := range slices.Backward(order) {
			l = append(l, step{lend(1000 + i), lent(p, 2)})
		}
		for i, p := range order {
			l = append(l, step{look(p, 1), refused(api.ErrGone)}, step{look(p, 2), number(1000 + i)})
		}
		play(t, l)
	}
}

// TestLendMany: P3.2, a place that is lent many times: each turn is one more, and its other handles are gone.
func TestLendMany(t *testing.T) {
	l := []step{{lend(5), lent(0, 1)}}
	for turn := 1; turn < 400; turn++ {
		l = append(l,
			step{lend(1000 + turn), lent(1, turn)},
			step{look(1, turn), number(1000 + turn)},
			step{look(1, turn+1), refused(api.ErrNone)},
			step{back(1, turn), number(1000 + turn)},
		)
	}
	for turn := 1; turn < 400; turn++ {
		l = append(l, step{look(1, turn), refused(api.ErrGone)})
	}
	play(t, append(l, step{look(1, 400), refused(api.ErrNone)}, step{look(0, 1), number(5)}))
}

// TestFull: P3.2, MaxLive places may keep something, no more, and there is room again when one is given back.
func TestFull(t *testing.T) {
	play(t, append(full(), []step{
		{count(), number(api.MaxLive)},
		{lend(1), refused(api.ErrFull)},
		{lend(api.MaxCount), refused(api.ErrFull)},
		{lend(0), refused(api.ErrRange)}, // ahead of ErrFull
		{lend(api.MaxCount + 1), refused(api.ErrRange)},
		{count(), number(api.MaxLive)},
		{look(api.MaxLive, 1), refused(api.ErrNone)},
		{look(0, 2), refused(api.ErrNone)},
		{look(api.MaxLive-1, 1), number(100 + api.MaxLive - 1)},
		{look(7, 2), refused(api.ErrNone)},
		{back(7, 2), refused(api.ErrNone)},
		{lend(1), refused(api.ErrFull)}, // a Back that is refused makes no room
		{back(7, 1), number(107)},
		{back(7, 1), refused(api.ErrGone)},
		{count(), number(api.MaxLive - 1)},
		{lend(1), lent(7, 2)},
		{lend(2), refused(api.ErrFull)},
		{back(7, 1), refused(api.ErrGone)},
		{lend(2), refused(api.ErrFull)},
		{look(7, 2), number(1)},
	}...))
}

// TestHandles: P3.3, handles of places that there never were, and of turns that a place never had, of places that keep something and of free ones.
func TestHandles(t *testing.T) {
	l := []step{
		{lend(10), lent(0, 1)}, {lend(11), lent(1, 1)}, {lend(12), lent(2, 1)},
		{back(0, 1), number(10)}, {lend(13), lent(0, 2)},
		{back(1, 1), number(11)}, // place 0 is in its second turn, place 1 is free
	}
	for _, job := range []func(place, turn int) api.Job{look, back} {
		for _, place := range []int{math.MinInt, -1, 3, 4, api.MaxLive, api.MaxCount, math.MaxInt} {
			for _, turn := range []int{math.MinInt, -1, 0, 1, 2, math.MaxInt} {
				l = append(l, step{job(place, turn), refused(api.ErrNone)})
			}
		}
		for place, turns := range []int{2, 1, 1} {
			for _, turn := range []int{math.MinInt, -2, -1, 0, turns + 1, turns + 2, math.MaxInt} {
				l = append(l, step{job(place, turn), refused(api.ErrNone)})
			}
		}
		l = append(l,
			step{job(0, 1), refused(api.ErrGone)}, // lent again since
			step{job(1, 1), refused(api.ErrGone)}, // given back
			step{count(), number(2)},
		)
	}
	l = append(l, []step{ // all is as it was
		{look(0, 2), number(13)},
		{look(2, 1), number(12)},
		{lend(14), lent(1, 2)},
		{lend(15), lent(3, 1)},
	}...)
	play(t, l)
}

// TestLookLeaves: P3.3, a Look leaves all as it was, and only a Back frees.
func TestLookLeaves(t *testing.T) {
	play(t, []step{
		{lend(5), lent(0, 1)},
		{look(0, 1), number(5)},
		{look(0, 1), number(5)},
		{count(), number(1)},
		{lend(6), lent(1, 1)},
		{back(0, 1), number(5)},
		{back(0, 1), refused(api.ErrGone)},
		{count(), number(1)},
		{lend(7), lent(0, 2)},
		{lend(8), lent(2, 1)}, // the place was free once, not twice
	})
}

// TestGoneForEver: what comes of it: a handle that was given back finds nothing any more, whatever comes behind it.
func TestGoneForEver(t *testing.T) {
	l := []step{{lend(5), lent(0, 1)}, {back(0, 1), number(5)}}
	for turn := 2; turn < 100; turn++ {
		l = append(l,
			step{look(0, 1), refused(api.ErrGone)},
			step{lend(5), lent(0, turn)},
			step{look(0, 1), refused(api.ErrGone)},
			step{back(0, 1), refused(api.ErrGone)},
			step{back(0, turn), number(5)},
		)
	}
	play(t, l)
}

// TestCount: P3.4, from none to all and back.
func TestCount(t *testing.T) {
	l := []step{{count(), number(0)}}
	for i := range api.MaxLive {
		l = append(l, step{lend(1), lent(i, 1)}, step{count(), number(i + 1)})
	}
	for i := range api.MaxLive {
		l = append(l, step{back(i, 1), number(1)}, step{count(), number(api.MaxLive - i - 1)})
	}
	play(t, l)
}

// TestKinds: P3.4, there are no other kinds, and what is refused does nothing.
func TestKinds(t *testing.T) {
	for _, kind := range []int{math.MinInt, -1, 0, api.Count + 1, math.MaxInt} {
		play(t, []step{
			{api.Job{Kind: kind}, refused(api.ErrKind)},
			{lend(5), lent(0, 1)},
			{api.Job{Kind: kind, Number: 4}, refused(api.ErrKind)},
			{api.Job{Kind: kind, Number: -1}, refused(api.ErrKind)},
			{api.Job{Kind: kind, Handle: api.Handle{Turn: 1}}, refused(api.ErrKind)},
			{api.Job{Kind: kind, Handle: api.Handle{Place: -1, Turn: -1}}, refused(api.ErrKind)},
			{count(), number(1)},
			{look(0, 1), number(5)},
			{lend(6), lent(1, 1)},
		})
	}
}

// TestDrawn: drawn jobs, beside the slow list.
func TestDrawn(t *testing.T) {
	r := rand.New(rand.NewSource(3))
	for range 300 {
		places, turns := 1+r.Intn(6), 1+r.Intn(5)
		var jobs []api.Job
		for range r.Intn(120) {
			j := api.Job{Kind: 1 + r.Intn(4), Number: r.Intn(9), Handle: api.Handle{Place: r.Intn(places), Turn: r.Intn(turns)}}
			if r.Intn(30) == 0 {
				j = api.Job{Kind: r.Intn(7) - 1, Number: []int{-1, api.MaxCount, api.MaxCount + 1}[r.Intn(3)], Handle: api.Handle{Place: r.Intn(9) - 2, Turn: r.Intn(9) - 2}}
			}
			jobs = append(jobs, j)
		}
		besideSlow(t, jobs)
	}
}

// TestDrawnFull: drawn jobs about a full arena, beside the slow list.
func TestDrawnFull(t *testing.T) {
	r := rand.New(rand.NewSource(5))
	for range 3 {
		var jobs []api.Job
		for range api.MaxLive - 2 {
			jobs = append(jobs, lend(1+r.Intn(api.MaxCount)))
		}
		for range 300 {
			jobs = append(jobs, lend(1+r.Intn(api.MaxCount)), back(r.Intn(api.MaxLive), 1+r.Intn(3)), count())
		}
		besideSlow(t, jobs)
	}
}

// TestLists: what is handed in is not changed, and no two answers share memory.
func TestLists(t *testing.T) {
	jobs := []api.Job{lend(5), look(0, 1), back(0, 1), lend(6), count()}
	room := append(slices.Clone(jobs), make([]api.Job, 8)...)
	first, _ := Play(room[:len(jobs)])
	if !slices.Equal(room[:len(jobs)], jobs) || slices.ContainsFunc(room[len(jobs):], func(j api.Job) bool { return j != api.Job{} }) {
		t.Errorf("handed in %v, left %v", jobs, room)
	}
	kept := slices.Clone(first)
	second, _ := Play(jobs)
	whole := second[:cap(second)]
	for i := range whole {
		whole[i] = refused(-1)
	}
	if !slices.Equal(first, kept) {
		t.Errorf("the first answer was changed through the second: %v, want %v", first, kept)
	}
}
