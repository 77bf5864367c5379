package tests

import (
	"fmt"
	"math/big"
	"math/rand"
	"slices"
	"testing"

	"loop.example/g01404/impl"
)

// jobs4 returns jobs with the length, the period and the deadline of each task.
func jobs4(rows ...[3]int64) impl.Jobs {
	var j impl.Jobs
	for _, row := range rows {
		j.Lengths = append(j.Lengths, row[0])
		j.Periods = append(j.Periods, row[1])
		j.Deadlines = append(j.Deadlines, row[2])
	}
	return j
}

// same4 returns k tasks with the same numbers.
func same4(k int, row [3]int64) impl.Jobs {
	return jobs4(slices.Repeat([][3]int64{row}, k)...)
}

// call4 is one time that a task comes.
type call4 struct {
	task, comes, due, left int64
}

// calls4 returns all times that the tasks come ahead of a slot, task by task.
func calls4(j impl.Jobs, until int64) []call4 {
	var calls []call4
	for i, period := range j.Periods {
		for comes := int64(0); comes < until; comes += period {
			calls = append(calls, call4{int64(i), comes, comes + j.Deadlines[i], j.Lengths[i]})
		}
	}
	return calls
}

// plan4 is what comes of jobs by earliest deadlines up to a slot: the slots, and whether, where and
// for whom they end with a late task.
type plan4 struct {
	slots          []int64
	isLate         bool
	lateAt, lateIs int64
}

// planOf4 looks at all times that tasks come for each slot.
func planOf4(j impl.Jobs, until int64) plan4 {
	var p plan4
	calls := calls4(j, until)
	for slot := int64(0); ; slot++ {
		for _, c := range calls {
			if c.due == slot && c.left > 0 {
				p.isLate, p.lateAt, p.lateIs = true, slot, c.task
				return p
			}
		}
		if slot == until {
			return p
		}
		best := -1
		for n, c := range calls {
			if c.comes <= slot && c.left > 0 && (best < 0 || c.due < calls[best].due) {
				best = n
			}
		}
		if best < 0 {
			p.slots = append(p.slots, -1)
		} else {
			p.slots = append(p.slots, calls[best].task)
			calls[best].left--
		}
	}
}

// whole4 counts up to the least number that all periods divide, 0 if it is greater than most.
func whole4(j impl.Jobs, most int64) int64 {
	for n := int64(1); n <= most; n++ {
		divided := true
		for _, period := range j.Periods {
			divided = divided && n%period == 0
		}
		if divided {
			return n
		}
	}
	return 0
}

// demand4 adds up the lengths time by time.
func demand4(j impl.Jobs, n int64) int64 {
	demand := int64(0)
	for _, c := range calls4(j, n) {
		if c.due <= n {
			demand += c.left
		}
	}
	return demand
}

// room4 goes through all numbers up to the whole period.
func room4(j impl.Jobs, whole int64) int64 {
	var rooms []int64
	for n := int64(1); n <= whole; n++ {
		rooms = append(rooms, n-demand4(j, n))
	}
	return slices.Min(rooms)
}

// answers4 gives slots in a fixed order and looks when each task has had those of its first time, all
// work of the tasks ahead of it done.
func answers4(j impl.Jobs, order []int64) []int64 {
	answers := times(len(order), -1)
	for place, i := range order {
		ahead, own := int64(0), j.Lengths[i]
		for slot := int64(0); slot < j.Deadlines[i] && own > 0; slot++ {
			for _, other := range order[:place] {
				if slot%j.Periods[other] == 0 {
					ahead += j.Lengths[other]
				}
			}
			if ahead > 0 {
				ahead--
			} else {
				own--
			}
			if own == 0 {
				answers[i] = slot + 1
			}
		}
	}
	return answers
}

// meets4 reports whether slots give each time of each task just what it needs, when it needs it.
func meets4(j impl.Jobs, slots []int64) bool {
	given := 0
	for _, c := range calls4(j, int64(len(slots))) {
		if c.due > int64(len(slots)) {
			return false
		}
		for _, who := range slots[c.comes:c.due] {
			if who == c.task {
				c.left--
				given++
			}
		}
		if c.left != 0 {
			return false
		}
	}
	for _, who := range slots {
		if who != -1 {
			given--
		}
	}
	return given == 0
}

// eachJobs4 calls f with jobs of each number of tasks: all of up to three tasks with small numbers,
// and others, with any numbers or near the load 1, the same ones on each run.
func eachJobs4(f func(j impl.Jobs)) {
	rows := func(lengths, periods int64) [][3]int64 {
		var list [][3]int64
		for period := int64(1); period <= periods; period++ {
			for deadline := int64(1); deadline <= period; deadline++ {
				for length := int64(1); length <= lengths; length++ {
					list = append(list, [3]int64{length, period, deadline})
				}
			}
		}
		return list
	}
	for _, a := range rows(7, 6) {
		f(jobs4(a))
	}
	for _, a := range rows(3, 4) {
		for _, b := range rows(3, 4) {
			f(jobs4(a, b))
		}
	}
	for _, a := range rows(1, 4) {
		for _, b := range rows(2, 4) {
			for _, c := range rows(1, 4) {
				f(jobs4(a, b, c))
			}
		}
	}
	otherJobs4(f)
}

func otherJobs4(f func(j impl.Jobs)) {
	numbers := rand.New(rand.NewSource(4))
	for range 4000 {
		k := 1 + numbers.Intn(8)
		whole := []int64{12, 30, 60, 84, 120, 123, 180, 210, 240, 240}[numbers.Intn(10)]
		var near, far impl.Jobs
		for range k {
			period := 1 + numbers.Int63n(60)
			far.Lengths = append(far.Lengths, 1+numbers.Int63n(20))
			far.Periods = append(far.Periods, period)
			far.Deadlines = append(far.Deadlines, 1+numbers.Int63n(period))
			for whole%period != 0 || period < int64(k) {
				period = 1 + numbers.Int63n(60)
			}
			length := 1 + numbers.Int63n(min(20, max(1, period*5/4/int64(k))))
			near.Lengths = append(near.Lengths, length)
			near.Periods = append(near.Periods, period)
			near.Deadlines = append(near.Deadlines, max(1, period-numbers.Int63n(max(1, period-length))))
		}
		f(near)
		f(far)
	}
}

// badJobs4 are what is no jobs.
func badJobs4() []impl.Jobs {
	one := []int64{1}
	bad := []impl.Jobs{
		{}, {Lengths: []int64{}, Periods: []int64{}, Deadlines: []int64{}}, {Lengths: one}, {Periods: one}, {Deadlines: one}, {Lengths: one, Periods: one}, {Lengths: one, Deadlines: one}, {Periods: one, Deadlines: one},
		{Lengths: times(2, 1), Periods: one, Deadlines: one}, {Lengths: one, Periods: times(2, 1), Deadlines: one}, {Lengths: one, Periods: one, Deadlines: times(2, 1)},
		{Lengths: one, Periods: times(2, 1), Deadlines: times(2, 1)}, {Lengths: times(2, 1), Periods: one, Deadlines: times(2, 1)}, {Lengths: times(2, 1), Periods: times(2, 1), Deadlines: one},
		{Lengths: times(8, 1), Periods: times(9, 1), Deadlines: times(8, 1)}, {Lengths: times(9, 1), Periods: times(8, 1), Deadlines: times(8, 1)}, {Lengths: times(8, 1), Periods: times(8, 1), Deadlines: times(9, 1)},
		same4(9, [3]int64{1, 60, 60}), same4(9, [3]int64{1, 1, 1}), same4(1000, [3]int64{1, 9, 9}),
	}
	rows := [][3]int64{
		{0, 5, 5}, {-1, 5, 5}, {21, 60, 60}, {22, 60, 60}, {257, 60, 60}, {1, 0, 0}, {1, 0, 1}, {1, -1, -1}, {1, -1, 1}, {1, 61, 61}, {1, 61, 1}, {1, 61, 60}, {1, 257, 1}, {1, 5, 0}, {1, 5, -1}, {1, 5, 6}, {1, 1, 2}, {1, 60, 61}, {1, 59, 60}, {1, 5, 257},
		{0, 0, 0}, {21, 61, 62}, {-1, -1, -1},
	}
	for _, far := range farNumbers {
		rows = append(rows, [3]int64{far, 5, 5}, [3]int64{1, far, 5}, [3]int64{1, 5, far}, [3]int64{1, far, far}, [3]int64{far, far, far})
	}
	for _, row := range rows {
		good := [3]int64{1, 5, 5}
		bad = append(bad, jobs4(row), jobs4(good, row), jobs4(row, good), jobs4(good, good, good, good, good, good, good, row))
	}
	return bad
}

// tooLong4 are jobs whose whole periods are greater than MaxWhole, some of them with tasks that would
// be late at once.
var tooLong4 = []impl.Jobs{
	jobs4([3]int64{1, 5, 5}, [3]int64{1, 49, 49}), jobs4([3]int64{1, 41, 41}, [3]int64{1, 6, 6}), jobs4([3]int64{1, 59, 59}, [3]int64{1, 60, 60}), jobs4([3]int64{1, 50, 50}, [3]int64{1, 30, 30}, [3]int64{1, 4, 4}),
	jobs4([3]int64{20, 5, 1}, [3]int64{20, 49, 1}), jobs4([3]int64{20, 60, 1}, [3]int64{20, 7, 1}),
	jobs4([3]int64{1, 59, 59}, [3]int64{1, 53, 53}, [3]int64{1, 47, 47}, [3]int64{1, 43, 43}, [3]int64{1, 41, 41}, [3]int64{1, 37, 37}, [3]int64{1, 31, 31}, [3]int64{1, 60, 60}),
}

// longTurns4 are jobs whose whole periods are between MaxTurns and MaxWhole, with the whole period and
// whether they can be met.
var longTurns4 = []struct {
	j     impl.Jobs
	whole int64
	met   bool
}{
	{jobs4([3]int64{1, 3, 3}, [3]int64{1, 41, 41}), 123, true}, {jobs4([3]int64{1, 31, 31}, [3]int64{1, 4, 4}), 124, true}, {jobs4([3]int64{1, 25, 25}, [3]int64{1, 5, 5}, [3]int64{1, 50, 50}, [3]int64{1, 3, 3}), 150, true},
	{jobs4([3]int64{1, 48, 48}, [3]int64{1, 60, 60}), 240, true}, {jobs4([3]int64{20, 48, 48}, [3]int64{20, 60, 60}), 240, true}, {jobs4([3]int64{1, 5, 5}, [3]int64{1, 16, 16}, [3]int64{1, 3, 3}), 240, true},
	{jobs4([3]int64{1, 3, 1}, [3]int64{1, 41, 1}), 123, false}, {jobs4([3]int64{20, 48, 1}, [3]int64{20, 60, 60}), 240, false}, {jobs4([3]int64{20, 48, 48}, [3]int64{20, 60, 60}, [3]int64{20, 60, 60}), 240, false},
}

// ofJobs4 are the chapter's functions that take only jobs, each with the greatest whole period that it takes, 0 if it takes
// all; it reports whether all results are zero values.
var ofJobs4 = []struct {
	name string
	most int64
	run  func(j impl.Jobs) (bool, int64)
}{
	{"LoadOf", 0, func(j impl.Jobs) (bool, int64) { a, b, code := impl.LoadOf(j); return a == 0 && b == 0, code }},
	{"WholePeriod", 240, func(j impl.Jobs) (bool, int64) { a, code := impl.WholePeriod(j); return a == 0, code }},
	{"DeadlineSlots", 240, func(j impl.Jobs) (bool, int64) { a, code := impl.DeadlineSlots(j); return len(a) == 0, code }},
	{"FirstLate", 240, func(j impl.Jobs) (bool, int64) { a, b, code := impl.FirstLate(j); return a == 0 && b == 0, code }},
	{"RoomOf", 240, func(j impl.Jobs) (bool, int64) { a, code := impl.RoomOf(j); return a == 0, code }},
	{"CanMeet", 240, func(j impl.Jobs) (bool, int64) { a, code := impl.CanMeet(j); return !a, code }},
	{"OrderByDeadlines", 0, func(j impl.Jobs) (bool, int64) { a, code := impl.OrderByDeadlines(j); return len(a) == 0, code }},
	{"TurnsOfJobs", 120, func(j impl.Jobs) (bool, int64) { a, code := impl.TurnsOfJobs(j); return len(a) == 0, code }},
	{"GapsOfTurns", 120, func(j impl.Jobs) (bool, int64) { a, code := impl.GapsOfTurns(j); return len(a.Gaps) == 0, code }},
}

func TestConstants4(t *testing.T) {
	if impl.MaxLength != 20 || impl.MaxPeriod != 60 || impl.MaxWhole != 240 {
		t.Errorf("limits %d, %d, %d", impl.MaxLength, impl.MaxPeriod, impl.MaxWhole)
	}
}

func TestAreJobs(t *testing.T) {
	good := []impl.Jobs{
		jobs4([3]int64{1, 1, 1}), jobs4([3]int64{20, 1, 1}), jobs4([3]int64{20, 60, 60}), jobs4([3]int64{20, 60, 1}), jobs4([3]int64{1, 60, 59}), jobs4([3]int64{7, 5, 3}), jobs4([3]int64{1, 2, 2}, [3]int64{2, 4, 4}),
		same4(8, [3]int64{20, 60, 60}), same4(8, [3]int64{1, 1, 1}), same4(8, [3]int64{20, 60, 1}),
	}
	for _, j := range append(good, tooLong4...) {
		if !impl.AreJobs(j) {
			t.Errorf("AreJobs(%v) = false", j)
		}
	}
	for _, j := range badJobs4() {
		if impl.AreJobs(j) {
			t.Errorf("AreJobs(%v) = true", j)
		}
	}
	for n := int64(-70); n <= 70; n++ {
		if impl.AreJobs(jobs4([3]int64{n, 30, 30})) != (n >= 1 && n <= 20) {
			t.Errorf("AreJobs with the length %d is wrong", n)
		}
		if impl.AreJobs(jobs4([3]int64{1, n, 1})) != (n >= 1 && n <= 60) {
			t.Errorf("AreJobs with the period %d is wrong", n)
		}
		if impl.AreJobs(jobs4([3]int64{1, 30, n})) != (n >= 1 && n <= 30) {
			t.Errorf("AreJobs with the deadline %d is wrong", n)
		}
		if impl.AreJobs(same4(int(n+70), [3]int64{1, 9, 9})) != (n >= -69 && n <= -62) {
			t.Errorf("AreJobs with %d tasks is wrong", n+70)
		}
	}
}

func TestLoadOf(t *testing.T) {
	cases := []struct {
		j            impl.Jobs
		above, below int64
	}{
		{jobs4([3]int64{1, 1, 1}), 1, 1}, {jobs4([3]int64{20, 1, 1}), 20, 1}, {jobs4([3]int64{1, 60, 60}), 1, 60}, {jobs4([3]int64{20, 60, 60}), 1, 3}, {jobs4([3]int64{20, 60, 1}), 1, 3},
		{jobs4([3]int64{1, 2, 2}, [3]int64{2, 4, 4}), 1, 1}, {jobs4([3]int64{1, 2, 1}, [3]int64{1, 3, 1}, [3]int64{1, 6, 1}), 1, 1}, {jobs4([3]int64{20, 40, 40}, [3]int64{20, 39, 39}), 79, 78}, {jobs4([3]int64{19, 40, 40}, [3]int64{20, 40, 40}), 39, 40},
		{same4(8, [3]int64{20, 1, 1}), 160, 1}, {same4(8, [3]int64{1, 8, 8}), 1, 1}, {same4(8, [3]int64{1, 60, 60}), 2, 15},
	}
	for _, c := range cases {
		if above, below, code := impl.LoadOf(c.j); above != c.above || below != c.below || code != impl.ErrNone {
			t.Errorf("LoadOf(%v) = %d, %d, %d", c.j, above, below, code)
		}
	}
	check := func(j impl.Jobs) {
		load := new(big.Rat)
		for i, length := range j.Lengths {
			load.Add(load, big.NewRat(length, j.Periods[i]))
		}
		if above, below, code := impl.LoadOf(j); above != load.Num().Int64() || below != load.Denom().Int64() || code != impl.ErrNone {
			t.Errorf("LoadOf(%v) = %d, %d, %d, not %v", j, above, below, code, load)
		}
	}
	eachJobs4(check)
	// The greatest denominators: periods of which no two have a common divisor.
	primes := []int64{59, 53, 47, 43, 41, 37, 31, 60}
	check(impl.Jobs{Lengths: times(8, 20), Periods: primes, Deadlines: times(8, 1)})
	check(impl.Jobs{Lengths: times(8, 19), Periods: primes, Deadlines: primes})
}

func TestWholePeriod(t *testing.T) {
	cases := []struct {
		periods []int64
		want    int64
	}{
		{[]int64{1}, 1}, {[]int64{60}, 60}, {[]int64{2, 4}, 4}, {[]int64{4, 6}, 12}, {[]int64{6, 10, 15}, 30}, {[]int64{48, 60}, 240}, {[]int64{5, 16, 3}, 240}, {times(8, 1), 1}, {times(8, 60), 60}, {[]int64{60, 30, 20, 15, 12, 10, 6, 48}, 240}, {[]int64{59, 4}, 236}, {[]int64{34, 7}, 238}, {[]int64{14, 17}, 238},
		{[]int64{5, 49}, 0}, {[]int64{6, 41}, 0}, {[]int64{13, 19}, 0}, {[]int64{16, 60, 7}, 0}, {[]int64{59, 60}, 0}, {[]int64{59, 53, 47, 43, 41, 37, 31, 60}, 0},
	}
	for _, c := range cases {
		whole, code := impl.WholePeriod(impl.Jobs{Lengths: times(len(c.periods), 20), Periods: c.periods, Deadlines: times(len(c.periods), 1)})
		if c.want == 0 {
			wantCode(t, fmt.Sprint("WholePeriod", c.periods), code, impl.ErrLimit, whole == 0)
		} else if whole != c.want || code != impl.ErrNone {
			t.Errorf("WholePeriod(%v) = %d, %d", c.periods, whole, code)
		}
	}
	limited := 0
	eachJobs4(func(j impl.Jobs) {
		want, wantErr := whole4(j, 240), int64(impl.ErrNone)
		if want == 0 {
			wantErr = impl.ErrLimit
			limited++
		}
		if whole, code := impl.WholePeriod(j); whole != want || code != wantErr {
			t.Errorf("WholePeriod(%v) = %d, %d, not %d, %d", j, whole, code, want, wantErr)
		}
	})
	if limited < 1000 {
		t.Errorf("only %d whole periods are too great", limited)
	}
}

// TestByEarliestDeadlines has slots as text, and who is late where; -1 if none is.
func TestByEarliestDeadlines(t *testing.T) {
	cases := []struct {
		j       impl.Jobs
		text    string
		at, who int64
	}{
		{jobs4([3]int64{1, 1, 1}), "a", 0, -1}, {jobs4([3]int64{1, 3, 3}), "a..", 0, -1}, {jobs4([3]int64{1, 3, 1}), "a..", 0, -1}, {jobs4([3]int64{3, 3, 3}), "aaa", 0, -1}, {jobs4([3]int64{2, 4, 2}), "aa..", 0, -1},
		{jobs4([3]int64{1, 2, 2}, [3]int64{2, 4, 4}), "abab", 0, -1}, {jobs4([3]int64{2, 4, 4}, [3]int64{1, 2, 2}), "baab", 0, -1}, {jobs4([3]int64{1, 2, 2}, [3]int64{1, 4, 4}), "aba.", 0, -1},
		// A task that is in its turn gives way to a deadline that is ahead, and goes on behind it.
		{jobs4([3]int64{3, 6, 6}, [3]int64{1, 3, 1}), "baaba.", 0, -1}, {jobs4([3]int64{4, 8, 8}, [3]int64{1, 4, 2}, [3]int64{1, 8, 3}), "bcaabaa.", 0, -1},
		// Of equal deadlines the least task is first, also where it comes later.
		{same4(3, [3]int64{1, 3, 3}), "abc", 0, -1}, {jobs4([3]int64{1, 3, 3}, [3]int64{2, 6, 6}), "abba..", 0, -1}, {jobs4([3]int64{1, 2, 2}, [3]int64{3, 6, 6}), "ababab", 0, -1}, {jobs4([3]int64{3, 6, 6}, [3]int64{1, 2, 2}), "babaab", 0, -1},
		{same4(8, [3]int64{1, 8, 8}), "abcdefgh", 0, -1}, {jobs4([3]int64{1, 8, 8}, [3]int64{1, 8, 7}, [3]int64{1, 8, 6}, [3]int64{1, 8, 5}, [3]int64{1, 8, 4}, [3]int64{1, 8, 3}, [3]int64{1, 8, 2}, [3]int64{1, 8, 1}), "hgfedcba", 0, -1},
		// A task with a length that is greater than its deadline.
		{jobs4([3]int64{2, 1, 1}), "a", 1, 0}, {jobs4([3]int64{3, 3, 2}), "aa", 2, 0}, {jobs4([3]int64{2, 9, 1}), "a", 1, 0}, {jobs4([3]int64{1, 4, 3}, [3]int64{2, 4, 1}), "b", 1, 1},
		{jobs4([3]int64{1, 2, 1}, [3]int64{1, 3, 1}), "a", 1, 1}, {jobs4([3]int64{2, 4, 3}, [3]int64{2, 4, 3}), "aab", 3, 1}, {jobs4([3]int64{2, 3, 3}, [3]int64{1, 2, 1}), "baa", 3, 1}, {jobs4([3]int64{1, 2, 1}, [3]int64{2, 3, 3}), "aba", 3, 1}, {jobs4([3]int64{3, 4, 4}, [3]int64{1, 2, 1}), "baba", 4, 0}, {jobs4([3]int64{1, 2, 1}, [3]int64{1, 3, 3}, [3]int64{1, 3, 3}), "aba", 3, 2},
		// Late in the slot at which the whole period ends: all slots are given.
		{jobs4([3]int64{3, 2, 2}), "aa", 2, 0}, {same4(2, [3]int64{1, 1, 1}), "a", 1, 1}, {jobs4([3]int64{2, 2, 2}, [3]int64{1, 2, 2}), "aa", 2, 1}, {jobs4([3]int64{1, 2, 2}, [3]int64{1, 3, 3}, [3]int64{2, 6, 6}), "ababac", 6, 2},
		// Two and more tasks late in one slot.
		{same4(3, [3]int64{1, 2, 1}), "a", 1, 1}, {jobs4([3]int64{3, 4, 2}, [3]int64{1, 4, 2}), "aa", 2, 0}, {jobs4([3]int64{1, 4, 3}, [3]int64{3, 4, 2}, [3]int64{3, 4, 2}), "bb", 2, 1}, {jobs4([3]int64{1, 4, 4}, [3]int64{1, 3, 3}, [3]int64{3, 4, 2}, [3]int64{1, 4, 2}), "cc", 2, 2}, {same4(8, [3]int64{20, 1, 1}), "a", 1, 0}, {same4(4, [3]int64{1, 2, 2}), "ab", 2, 2},
	}
	for _, c := range cases {
		given, code := impl.DeadlineSlots(c.j)
		if !slices.Equal(given, slots(c.text)) || code != impl.ErrNone {
			t.Errorf("DeadlineSlots(%v) = %v, %d, not %s", c.j, given, code, c.text)
		}
		wantErr := int64(impl.ErrNone)
		if c.who < 0 {
			c.who, wantErr = 0, impl.ErrNotFound
		}
		if at, who, code := impl.FirstLate(c.j); at != c.at || who != c.who || code != wantErr {
			t.Errorf("FirstLate(%v) = %d, %d, %d", c.j, at, who, code)
		}
		if can, code := impl.CanMeet(c.j); can != (wantErr == impl.ErrNotFound) || code != impl.ErrNone {
			t.Errorf("CanMeet(%v) = %v, %d", c.j, can, code)
		}
	}
	for _, c := range longTurns4 {
		given, code := impl.DeadlineSlots(c.j)
		if c.met && int64(len(given)) != c.whole || !slices.Equal(given, planOf4(c.j, c.whole).slots) || code != impl.ErrNone {
			t.Errorf("DeadlineSlots(%v) = %v, %d", c.j, given, code)
		}
		if can, code := impl.CanMeet(c.j); can != c.met || code != impl.ErrNone {
			t.Errorf("CanMeet(%v) = %v, %d", c.j, can, code)
		}
	}
}

// TestJobsAgainstModel compares what comes by earliest deadlines with the model.
func TestJobsAgainstModel(t *testing.T) {
	met, late, atEnd, idle := 0, 0, 0, 0
	eachJobs4(func(j impl.Jobs) {
		whole := whole4(j, 240)
		if whole == 0 {
			return
		}
		p := planOf4(j, whole)
		if given, code := impl.DeadlineSlots(j); !slices.Equal(given, p.slots) || code != impl.ErrNone {
			t.Fatalf("DeadlineSlots(%v) = %v, %d, not %v", j, given, code, p.slots)
		}
		if can, code := impl.CanMeet(j); can == p.isLate || code != impl.ErrNone {
			t.Fatalf("CanMeet(%v) = %v, %d", j, can, code)
		}
		wantErr := int64(impl.ErrNone)
		if !p.isLate {
			wantErr = impl.ErrNotFound
		}
		if at, who, code := impl.FirstLate(j); at != p.lateAt || who != p.lateIs || code != wantErr {
			t.Fatalf("FirstLate(%v) = %d, %d, %d, not %d, %d, %d", j, at, who, code, p.lateAt, p.lateIs, wantErr)
		}
		checkTurns4(t, j, whole, p)
		switch {
		case p.isLate && p.lateAt == whole:
			atEnd++
		case p.isLate:
			late++
		default:
			met++
		}
		if slices.Contains(p.slots, -1) {
			idle++
		}
	})
	if met < 1000 || late < 1000 || atEnd < 100 || idle < 1000 {
		t.Errorf("only %d jobs are met, %d are late, %d late at the end, %d have idle slots", met, late, atEnd, idle)
	}
}

// checkTurns4 compares the turns of jobs and their greatest waits with the model.
func checkTurns4(t *testing.T, j impl.Jobs, whole int64, p plan4) {
	t.Helper()
	wantErr, wantGaps := int64(impl.ErrNone), []int64(nil)
	if whole > 120 {
		wantErr = impl.ErrLimit
	} else if p.isLate {
		wantErr = impl.ErrState
	}
	turns, code := impl.TurnsOfJobs(j)
	wantCode(t, fmt.Sprint("TurnsOfJobs", j), code, wantErr, len(turns) == 0)
	if wantErr == impl.ErrNone && !slices.Equal(turns, p.slots) {
		t.Errorf("TurnsOfJobs(%v) = %v, not %v", j, turns, p.slots)
	}
	if wantErr == impl.ErrNone {
		for i := range j.Lengths {
			wantGaps = append(wantGaps, slices.Max(waits1(p.slots, int64(i))))
		}
		if slices.Max(wantGaps) > 40 {
			wantErr, wantGaps = impl.ErrNotFound, nil
		}
	}
	gaps, code := impl.GapsOfTurns(j)
	if !slices.Equal(gaps.Gaps, wantGaps) || code != wantErr {
		t.Errorf("GapsOfTurns(%v) = %v, %d, not %v, %d", j, gaps.Gaps, code, wantGaps, wantErr)
	}
}

func TestDemandUpTo(t *testing.T) {
	cases := []struct {
		j       impl.Jobs
		n, want int64
	}{
		{jobs4([3]int64{20, 1, 1}), 0, 0}, {jobs4([3]int64{20, 1, 1}), 1, 20}, {jobs4([3]int64{20, 1, 1}), 1000, 20000}, {same4(8, [3]int64{20, 1, 1}), 1000, 160000}, {same4(8, [3]int64{20, 1, 1}), 0, 0},
		{jobs4([3]int64{20, 60, 60}), 59, 0}, {jobs4([3]int64{20, 60, 60}), 60, 20}, {jobs4([3]int64{20, 60, 60}), 119, 20}, {jobs4([3]int64{20, 60, 60}), 120, 40}, {jobs4([3]int64{20, 60, 60}), 1000, 320}, {jobs4([3]int64{20, 60, 1}), 1, 20}, {jobs4([3]int64{20, 60, 1}), 60, 20}, {jobs4([3]int64{20, 60, 1}), 61, 40},
		{jobs4([3]int64{5, 10, 3}), 2, 0}, {jobs4([3]int64{5, 10, 3}), 3, 5}, {jobs4([3]int64{5, 10, 3}), 12, 5}, {jobs4([3]int64{5, 10, 3}), 13, 10}, {jobs4([3]int64{5, 10, 3}), 999, 500}, {jobs4([3]int64{5, 10, 3}), 1000, 500},
	}
	for n, want := range []int64{0, 0, 1, 1, 4, 4, 5, 5, 8, 8, 9} {
		cases = append(cases, struct {
			j       impl.Jobs
			n, want int64
		}{jobs4([3]int64{1, 2, 2}, [3]int64{2, 4, 4}), int64(n), want})
	}
	for _, c := range cases {
		if demand, code := impl.DemandUpTo(c.j, c.n); demand != c.want || code != impl.ErrNone {
			t.Errorf("DemandUpTo(%v, %d) = %d, %d, not %d", c.j, c.n, demand, code, c.want)
		}
	}
	eachJobs4(func(j impl.Jobs) {
		for _, n := range []int64{0, 1, 2, 3, 4, 5, 11, 12, 13, 59, 60, 61, 240, 999, 1000} {
			if demand, code := impl.DemandUpTo(j, n); demand != demand4(j, n) || code != impl.ErrNone {
				t.Errorf("DemandUpTo(%v, %d) = %d, %d, not %d", j, n, demand, code, demand4(j, n))
			}
		}
	})
}

func TestRoomOf(t *testing.T) {
	cases := []struct {
		j    impl.Jobs
		want int64
	}{
		{jobs4([3]int64{1, 1, 1}), 0}, {jobs4([3]int64{20, 1, 1}), -19}, {jobs4([3]int64{1, 60, 60}), 1}, {jobs4([3]int64{1, 2, 2}), 1}, {jobs4([3]int64{1, 2, 1}), 0}, {jobs4([3]int64{1, 2, 2}, [3]int64{2, 4, 4}), 0}, {jobs4([3]int64{1, 2, 2}, [3]int64{1, 4, 4}), 1},
		{jobs4([3]int64{3, 6, 3}, [3]int64{1, 6, 6}), 0}, {jobs4([3]int64{4, 6, 3}), -1}, {jobs4([3]int64{2, 60, 1}), -1}, {jobs4([3]int64{1, 2, 2}, [3]int64{1, 3, 3}, [3]int64{2, 6, 6}), -1}, {jobs4([3]int64{20, 60, 60}, [3]int64{20, 60, 60}, [3]int64{20, 60, 60}), 0},
		{same4(8, [3]int64{20, 60, 60}), -100}, {same4(8, [3]int64{20, 60, 1}), -159}, {same4(8, [3]int64{20, 1, 1}), -159}, {same4(8, [3]int64{1, 8, 8}), 0}, {same4(8, [3]int64{1, 9, 9}), 1},
		{jobs4([3]int64{20, 48, 48}, [3]int64{20, 60, 60}), 1}, {jobs4([3]int64{20, 48, 48}, [3]int64{20, 60, 60}, [3]int64{20, 60, 60}), -20},
	}
	for _, c := range cases {
		if room, code := impl.RoomOf(c.j); room != c.want || code != impl.ErrNone {
			t.Errorf("RoomOf(%v) = %d, %d, not %d", c.j, room, code, c.want)
		}
	}
	more, none, less := 0, 0, 0
	eachJobs4(func(j impl.Jobs) {
		whole := whole4(j, 240)
		if whole == 0 {
			return
		}
		want := room4(j, whole)
		if room, code := impl.RoomOf(j); room != want || code != impl.ErrNone {
			t.Errorf("RoomOf(%v) = %d, %d, not %d", j, room, code, want)
		}
		switch {
		case want > 0:
			more++
		case want == 0:
			none++
		default:
			less++
		}
	})
	if more < 500 || none < 500 || less < 500 {
		t.Errorf("only %d rooms are more than 0, %d are 0, and %d less", more, none, less)
	}
}

func TestAnswersOf(t *testing.T) {
	pair := jobs4([3]int64{1, 2, 2}, [3]int64{2, 4, 4})
	cases := []struct {
		j           impl.Jobs
		order, want []int64
	}{
		{jobs4([3]int64{1, 1, 1}), []int64{0}, []int64{1}}, {jobs4([3]int64{20, 60, 20}), []int64{0}, []int64{20}}, {jobs4([3]int64{20, 60, 19}), []int64{0}, []int64{-1}}, {jobs4([3]int64{20, 60, 60}), []int64{0}, []int64{20}}, {jobs4([3]int64{20, 1, 1}), []int64{0}, []int64{-1}},
		{pair, []int64{0, 1}, []int64{1, 4}}, {pair, []int64{1, 0}, []int64{-1, 2}},
		{jobs4([3]int64{1, 3, 3}, [3]int64{2, 5, 5}), []int64{0, 1}, []int64{1, 3}}, {jobs4([3]int64{1, 3, 3}, [3]int64{3, 5, 5}), []int64{0, 1}, []int64{1, 5}}, {jobs4([3]int64{1, 3, 3}, [3]int64{3, 5, 4}), []int64{0, 1}, []int64{1, -1}},
		// What comes just in the slot of the answer does not count for it.
		{jobs4([3]int64{1, 2, 2}, [3]int64{1, 4, 2}), []int64{0, 1}, []int64{1, 2}}, {jobs4([3]int64{2, 4, 4}, [3]int64{2, 9, 4}), []int64{0, 1}, []int64{2, 4}}, {jobs4([3]int64{2, 4, 4}, [3]int64{3, 9, 7}), []int64{0, 1}, []int64{2, 7}}, {jobs4([3]int64{2, 4, 4}, [3]int64{3, 9, 6}), []int64{0, 1}, []int64{2, -1}},
		// Tasks ahead that take all slots, and one behind them that has none; those late themselves count, too.
		{jobs4([3]int64{1, 60, 60}, [3]int64{1, 1, 1}), []int64{1, 0}, []int64{-1, 1}}, {jobs4([3]int64{1, 60, 60}, [3]int64{2, 1, 1}), []int64{1, 0}, []int64{-1, -1}}, {jobs4([3]int64{3, 9, 2}, [3]int64{1, 9, 9}), []int64{0, 1}, []int64{-1, 4}}, {jobs4([3]int64{20, 1, 1}, [3]int64{1, 60, 60}), []int64{1, 0}, []int64{-1, 1}},
		{jobs4([3]int64{1, 4, 4}, [3]int64{2, 6, 6}, [3]int64{3, 12, 12}), []int64{0, 1, 2}, []int64{1, 3, 10}}, {jobs4([3]int64{1, 4, 4}, [3]int64{2, 6, 6}, [3]int64{3, 12, 12}), []int64{2, 0, 1}, []int64{4, -1, 3}}, {jobs4([3]int64{1, 4, 4}, [3]int64{2, 7, 7}, [3]int64{3, 12, 12}), []int64{2, 0, 1}, []int64{4, 7, 3}},
		{same4(8, [3]int64{1, 8, 8}), []int64{7, 6, 5, 4, 3, 2, 1, 0}, []int64{8, 7, 6, 5, 4, 3, 2, 1}}, {same4(8, [3]int64{1, 8, 7}), []int64{0, 2, 4, 6, 1, 3, 5, 7}, []int64{1, 5, 2, 6, 3, 7, 4, -1}}, {same4(8, [3]int64{20, 60, 60}), []int64{0, 1, 2, 3, 4, 5, 6, 7}, []int64{20, 40, 60, -1, -1, -1, -1, -1}},
		// No whole period is asked for.
		{tooLong4[0], []int64{1, 0}, []int64{2, 1}}, {tooLong4[2], []int64{0, 1}, []int64{1, 2}},
	}
	for _, c := range cases {
		answers, code := impl.AnswersOf(c.j, c.order)
		wantTurns3(t, fmt.Sprint("AnswersOf", c.j, c.order), answers, c.want, code, impl.ErrNone)
	}
	found, none, just := 0, 0, 0
	eachOrder4(func(j impl.Jobs, order []int64) {
		want := answers4(j, order)
		answers, code := impl.AnswersOf(j, order)
		if !slices.Equal(answers, want) || code != impl.ErrNone {
			t.Fatalf("AnswersOf(%v, %v) = %v, %d, not %v", j, order, answers, code, want)
		}
		for i, answer := range answers {
			switch answer {
			case -1:
				none++
			case j.Deadlines[i]:
				just++
			default:
				found++
			}
		}
	})
	if found < 1000 || none < 1000 || just < 1000 {
		t.Errorf("only %d answers are found, %d are just the deadline, %d are none", found, just, none)
	}
}

// eachOrder4 calls f with jobs and an order of their tasks: that of their numbers, the opposite one,
// and another one.
func eachOrder4(f func(j impl.Jobs, order []int64)) {
	numbers := rand.New(rand.NewSource(5))
	eachJobs4(func(j impl.Jobs) {
		up, other := []int64(nil), []int64(nil)
		for i := range j.Lengths {
			up = append(up, int64(i))
		}
		down := slices.Clone(up)
		slices.Reverse(down)
		for _, i := range numbers.Perm(len(up)) {
			other = append(other, int64(i))
		}
		f(j, up)
		f(j, down)
		f(j, other)
	})
}

func TestOrderByDeadlines(t *testing.T) {
	cases := []struct{ deadlines, want []int64 }{
		{[]int64{1}, []int64{0}}, {[]int64{60}, []int64{0}}, {[]int64{3, 2}, []int64{1, 0}}, {[]int64{2, 3}, []int64{0, 1}}, {[]int64{5, 5}, []int64{0, 1}}, {[]int64{9, 5, 5, 1, 9, 5}, []int64{3, 1, 2, 5, 0, 4}},
		{times(8, 7), []int64{0, 1, 2, 3, 4, 5, 6, 7}}, {[]int64{8, 7, 6, 5, 4, 3, 2, 1}, []int64{7, 6, 5, 4, 3, 2, 1, 0}}, {[]int64{2, 1, 2, 1, 2, 1, 2, 1}, []int64{1, 3, 5, 7, 0, 2, 4, 6}}, {[]int64{60, 59, 60, 1}, []int64{3, 1, 0, 2}},
	}
	for _, c := range cases {
		k := len(c.deadlines)
		order, code := impl.OrderByDeadlines(impl.Jobs{Lengths: times(k, 1), Periods: times(k, 60), Deadlines: c.deadlines})
		wantTurns3(t, fmt.Sprint("OrderByDeadlines", c.deadlines), order, c.want, code, impl.ErrNone)
	}
	// It is the deadlines that order, not the periods, nor the lengths.
	order, code := impl.OrderByDeadlines(jobs4([3]int64{1, 10, 9}, [3]int64{2, 20, 8}, [3]int64{3, 30, 7}))
	wantTurns3(t, "OrderByDeadlines", order, []int64{2, 1, 0}, code, impl.ErrNone)
	eachJobs4(func(j impl.Jobs) {
		var want []int64
		for deadline := int64(1); deadline <= 60; deadline++ {
			for i, other := range j.Deadlines {
				if other == deadline {
					want = append(want, int64(i))
				}
			}
		}
		order, code := impl.OrderByDeadlines(j)
		wantTurns3(t, fmt.Sprint("OrderByDeadlines", j), order, want, code, impl.ErrNone)
	})
}

func TestTurnsOfJobs(t *testing.T) {
	cases := []struct {
		j    impl.Jobs
		text string
	}{
		{jobs4([3]int64{1, 1, 1}), "a"}, {jobs4([3]int64{1, 2, 2}, [3]int64{2, 4, 4}), "abab"}, {jobs4([3]int64{1, 3, 3}), "a.."}, {jobs4([3]int64{3, 6, 6}, [3]int64{1, 3, 1}), "baaba."}, {same4(8, [3]int64{1, 8, 8}), "abcdefgh"}, {jobs4([3]int64{1, 2, 2}, [3]int64{1, 3, 3}), "ababa."},
	}
	for _, c := range cases {
		turns, code := impl.TurnsOfJobs(c.j)
		wantTurns3(t, fmt.Sprint("TurnsOfJobs", c.j), turns, slots(c.text), code, impl.ErrNone)
	}
	// Just MaxTurns slots.
	for _, j := range []impl.Jobs{jobs4([3]int64{20, 40, 40}, [3]int64{20, 60, 60}), jobs4([3]int64{1, 8, 8}, [3]int64{1, 15, 15}), jobs4([3]int64{1, 40, 40}, [3]int64{1, 3, 3})} {
		turns, code := impl.TurnsOfJobs(j)
		if len(turns) != 120 || code != impl.ErrNone || !meets4(j, turns) {
			t.Errorf("TurnsOfJobs(%v) = %v, %d", j, turns, code)
		}
	}
	// A task that is late comes ahead of waits that would be too long.
	for _, j := range []impl.Jobs{jobs4([3]int64{1, 41, 41}, [3]int64{1, 1, 1}), jobs4([3]int64{20, 60, 19}), jobs4([3]int64{2, 1, 1}), jobs4([3]int64{3, 2, 2}), same4(2, [3]int64{1, 1, 1}), jobs4([3]int64{1, 2, 1}, [3]int64{1, 3, 1}), jobs4([3]int64{20, 40, 40}, [3]int64{20, 60, 1}), jobs4([3]int64{20, 40, 40}, [3]int64{20, 60, 60}, [3]int64{20, 60, 60})} {
		turns, code := impl.TurnsOfJobs(j)
		wantCode(t, fmt.Sprint("TurnsOfJobs", j), code, impl.ErrState, len(turns) == 0)
		gaps, code := impl.GapsOfTurns(j)
		wantCode(t, fmt.Sprint("GapsOfTurns", j), code, impl.ErrState, len(gaps.Gaps) == 0)
	}
}

func TestJobsOfTasks(t *testing.T) {
	check := func(gaps ...int64) {
		t.Helper()
		var halves []int64
		for _, gap := range gaps {
			half := int64(0)
			for 2*(half+1) <= gap+1 {
				half++
			}
			halves = append(halves, half)
		}
		j, code := impl.JobsOfTasks(tasksOf(gaps...))
		if !slices.Equal(j.Lengths, times(len(gaps), 1)) || !slices.Equal(j.Periods, halves) || !slices.Equal(j.Deadlines, halves) || code != impl.ErrNone {
			t.Errorf("JobsOfTasks(%v) = %v, %d", gaps, j, code)
		}
		if !impl.AreJobs(j) {
			t.Errorf("JobsOfTasks(%v) = %v is no jobs", gaps, j)
		}
	}
	for gap := int64(1); gap <= 40; gap++ {
		check(gap)
		check(gap, 41-gap, gap)
		check(times(8, gap)...)
	}
	j, code := impl.JobsOfTasks(tasksOf(1, 2, 3, 4, 5, 39, 40))
	if !slices.Equal(j.Periods, []int64{1, 1, 2, 2, 3, 20, 20}) || !slices.Equal(j.Deadlines, j.Periods) || !slices.Equal(j.Lengths, times(7, 1)) || code != impl.ErrNone {
		t.Errorf("JobsOfTasks = %v, %d", j, code)
	}
	for _, bad := range badTasks1() {
		j, code := impl.JobsOfTasks(bad)
		wantCode(t, fmt.Sprint("JobsOfTasks", bad), code, impl.ErrInvalid, len(j.Lengths)+len(j.Periods)+len(j.Deadlines) == 0)
	}
}

func TestGapsOfTurns(t *testing.T) {
	cases := []struct {
		j    impl.Jobs
		want []int64
	}{
		{jobs4([3]int64{1, 1, 1}), []int64{1}}, {jobs4([3]int64{1, 2, 2}, [3]int64{2, 4, 4}), []int64{2, 2}}, {jobs4([3]int64{2, 4, 4}, [3]int64{1, 2, 2}), []int64{3, 3}}, {jobs4([3]int64{3, 6, 6}, [3]int64{1, 3, 1}), []int64{3, 3}}, {jobs4([3]int64{2, 5, 5}), []int64{4}}, {same4(8, [3]int64{1, 8, 8}), times(8, 8)},
		// Waits of just MaxGap, and of one more.
		{jobs4([3]int64{1, 40, 40}), []int64{40}}, {jobs4([3]int64{2, 41, 41}), []int64{40}}, {jobs4([3]int64{20, 59, 59}), []int64{40}}, {jobs4([3]int64{1, 40, 40}, [3]int64{1, 20, 20}), []int64{40, 20}},
		{jobs4([3]int64{1, 41, 41}), nil}, {jobs4([3]int64{2, 42, 42}), nil}, {jobs4([3]int64{20, 60, 60}), nil}, {jobs4([3]int64{1, 60, 60}, [3]int64{1, 20, 20}), nil}, {jobs4([3]int64{1, 20, 20}, [3]int64{1, 60, 60}), nil},
	}
	for _, c := range cases {
		gaps, code := impl.GapsOfTurns(c.j)
		wantErr := int64(impl.ErrNone)
		if c.want == nil {
			wantErr = impl.ErrNotFound
		}
		wantTurns3(t, fmt.Sprint("GapsOfTurns", c.j), gaps.Gaps, c.want, code, wantErr)
	}
}

// TestPromise4: jobs can be met exactly if no demand up to a number of slots is greater than this
// number. If they can, the slots give each task what it needs, also in a further whole period.
func TestPromise4(t *testing.T) {
	met, late := 0, 0
	check := func(j impl.Jobs) {
		can, code := impl.CanMeet(j)
		if code != impl.ErrNone {
			return
		}
		above := int64(-1)
		for n := int64(0); n <= 1000 && above < 0; n++ {
			demand, code := impl.DemandUpTo(j, n)
			if code != impl.ErrNone {
				t.Fatalf("DemandUpTo(%v, %d) has the code %d", j, n, code)
			}
			if demand > n {
				above = n
			}
		}
		room, _ := impl.RoomOf(j)
		over, under, _ := impl.LoadOf(j)
		if can != (above < 0) || can != (room >= 0) || can && over > under {
			t.Fatalf("CanMeet(%v) = %v, but the demand up to %d is greater, the room is %d, and the load is %d/%d", j, can, above, room, over, under)
		}
		given, _ := impl.DeadlineSlots(j)
		whole, _ := impl.WholePeriod(j)
		if can {
			met++
			if again := planOf4(j, 2*whole); !meets4(j, given) || int64(len(given)) != whole || again.isLate || !slices.Equal(again.slots, slices.Concat(given, given)) {
				t.Fatalf("%v can be met, but not by %v", j, given)
			}
			return
		}
		late++
		if at, _, code := impl.FirstLate(j); at != int64(len(given)) || at > whole || at < 1 || code != impl.ErrNone {
			t.Fatalf("%v cannot be met, but the first late slot is %d, %d behind %v", j, at, code, given)
		}
	}
	eachJobs4(check)
	for _, c := range longTurns4 {
		check(c.j)
	}
	if met < 1000 || late < 1000 {
		t.Errorf("only %d jobs can be met, %d cannot", met, late)
	}
}

// TestGuarantee4: answers in the order of deadlines are at most deadlines only if jobs can be met.
func TestGuarantee4(t *testing.T) {
	met, less := 0, 0
	eachJobs4(func(j impl.Jobs) {
		order, _ := impl.OrderByDeadlines(j)
		answers, code := impl.AnswersOf(j, order)
		can, also := impl.CanMeet(j)
		if code != impl.ErrNone || also != impl.ErrNone {
			return
		}
		all := true
		for i, answer := range answers {
			all = all && answer >= 1
			if answer > j.Deadlines[i] || answer < 1 && answer != -1 || answer > 0 && answer < j.Lengths[i] {
				t.Errorf("AnswersOf(%v, %v) = %v", j, order, answers)
			}
		}
		if all && !can {
			t.Errorf("AnswersOf(%v, %v) = %v, but the jobs cannot be met", j, order, answers)
		}
		if all {
			met++
		} else if can {
			less++
		}
	})
	if met < 1000 || less < 100 {
		t.Errorf("only %d jobs are met in the order of deadlines, %d otherwise", met, less)
	}
}

// TestPromise13: turns of jobs of tasks serve the tasks.
func TestPromise13(t *testing.T) {
	served, longer := 0, 0
	check := func(gaps []int64) {
		j, code := impl.JobsOfTasks(tasksOf(gaps...))
		if code != impl.ErrNone {
			t.Fatalf("JobsOfTasks(%v) has the code %d", gaps, code)
		}
		if can, _ := impl.CanMeet(j); !can {
			return
		}
		if given, code := impl.DeadlineSlots(j); code != impl.ErrNone || !serves2(gaps, given) {
			t.Errorf("%v can be met, but %v does not serve %v", j, given, gaps)
		}
		turns, code := impl.TurnsOfJobs(j)
		if code == impl.ErrLimit && whole4(j, 120) == 0 {
			longer++
			return
		}
		served++
		if yes, also := impl.DoServe(tasksOf(gaps...), turns); !yes || also != impl.ErrNone || code != impl.ErrNone || !serves2(gaps, turns) {
			t.Errorf("TurnsOfJobs(%v) = %v, %d does not serve %v", j, turns, code, gaps)
		}
		least, code := impl.GapsOfTurns(j)
		for i, gap := range least.Gaps {
			if gap > gaps[i] {
				t.Errorf("GapsOfTurns(%v) = %v is not at most %v", j, least.Gaps, gaps)
			}
		}
		if code != impl.ErrNone || len(least.Gaps) != len(gaps) {
			t.Errorf("GapsOfTurns(%v) = %v, %d", j, least.Gaps, code)
		}
	}
	eachGaps2(400, check)
	for _, gaps := range gapLists3() {
		check(gaps)
	}
	for _, gaps := range [][]int64{{1}, {2}, {40}, {3, 3}, {4, 7}, {3, 7, 7}, times(8, 15), times(8, 40), {39, 40, 31, 29}, {40, 39, 32, 31, 30, 29, 20, 19}} {
		check(gaps)
	}
	if served < 500 || longer < 20 {
		t.Errorf("only %d tasks are served, %d by slots that are too many for turns", served, longer)
	}
}

func TestErrors4(t *testing.T) {
	for _, c := range ofJobs4 {
		for _, bad := range badJobs4() {
			zero, code := c.run(bad)
			wantCode(t, fmt.Sprint(c.name, bad), code, impl.ErrInvalid, zero)
		}
		for _, j := range tooLong4 {
			zero, code := c.run(j)
			if c.most == 0 {
				wantCode(t, fmt.Sprint(c.name, j), code, impl.ErrNone, zero)
			} else {
				wantCode(t, fmt.Sprint(c.name, j), code, impl.ErrLimit, zero) // ahead of tasks that are late
			}
		}
		for _, long := range longTurns4 {
			want := int64(impl.ErrNone)
			if c.name == "FirstLate" && long.met {
				want = impl.ErrNotFound
			} else if c.most == 120 {
				want = impl.ErrLimit
			}
			zero, code := c.run(long.j)
			wantCode(t, fmt.Sprint(c.name, long.j), code, want, zero)
		}
	}
}

// TestErrorsOfNumbers4 has numbers and orders that are not as told, with jobs that are and that are
// none. Neither function asks for a whole period.
func TestErrorsOfNumbers4(t *testing.T) {
	badNumbers := append([]int64{-1, -2, 1001, 1002, -1000, 1 << 16}, farNumbers...)
	for _, bad := range badJobs4() {
		for _, n := range append([]int64{0, 1, 1000}, badNumbers...) {
			demand, code := impl.DemandUpTo(bad, n)
			wantCode(t, fmt.Sprint("DemandUpTo", bad, n), code, impl.ErrInvalid, demand == 0)
		}
		for _, order := range [][]int64{nil, {0}, {0, 1}, {1, 0}, {0, 0}, {-1}, {9}, {0, 1, 2, 3, 4, 5, 6, 7, 8}} {
			answers, code := impl.AnswersOf(bad, order)
			wantCode(t, fmt.Sprint("AnswersOf", bad, order), code, impl.ErrInvalid, len(answers) == 0)
		}
	}
	for _, j := range append([]impl.Jobs{jobs4([3]int64{1, 1, 1}), jobs4([3]int64{1, 2, 2}, [3]int64{2, 4, 4}), same4(3, [3]int64{20, 1, 1}), same4(8, [3]int64{1, 60, 60})}, tooLong4...) {
		for _, n := range badNumbers {
			demand, code := impl.DemandUpTo(j, n)
			wantCode(t, fmt.Sprint("DemandUpTo", j, n), code, impl.ErrRange, demand == 0)
		}
		for _, n := range []int64{0, 1, 1000} {
			demand, code := impl.DemandUpTo(j, n)
			if demand != demand4(j, n) || code != impl.ErrNone {
				t.Errorf("DemandUpTo(%v, %d) = %d, %d", j, n, demand, code)
			}
		}
		for _, order := range badOrders4(len(j.Lengths)) {
			answers, code := impl.AnswersOf(j, order)
			wantCode(t, fmt.Sprint("AnswersOf", j, order), code, impl.ErrRange, len(answers) == 0)
		}
	}
}

// badOrders4 are lists that are no orders of k tasks.
func badOrders4(k int) [][]int64 {
	var order []int64
	for i := range k {
		order = append(order, int64(i))
	}
	bad := [][]int64{nil, {}, order[:k-1], order[1:], append(slices.Clone(order), 0), append(slices.Clone(order), int64(k)), append(slices.Clone(order), -1), slices.Repeat(order, 2), times(5000, 0)}
	for at := range order {
		for _, number := range append([]int64{-1, -2, int64(k), int64(k) + 1, 256, int64(at+1)%int64(k) - int64(k)}, farNumbers...) {
			other := slices.Clone(order)
			other[at] = number
			bad = append(bad, other)
		}
		if k > 1 {
			twice := slices.Clone(order)
			twice[at] = int64((at + 1) % k)
			bad = append(bad, twice)
		}
	}
	return bad
}

// TestMemory4 writes over results, and looks whether arguments, what stands behind their ends, and
// the other lists of a result keep what they had.
func TestMemory4(t *testing.T) {
	were := [][]int64{{1, 2, 1}, {4, 8, 8}, {4, 7, 6}, {1, 0, 2}, {9, 4, 8}}
	var lists [][]int64
	for _, list := range were {
		lists = append(lists, withSpare(list))
	}
	j, order, tasks := impl.Jobs{Lengths: lists[0], Periods: lists[1], Deadlines: lists[2]}, lists[3], impl.Tasks{Gaps: lists[4]}
	calls := map[string]func() []int64{
		"DeadlineSlots":           func() []int64 { y, _ := impl.DeadlineSlots(j); return y },
		"AnswersOf":               func() []int64 { y, _ := impl.AnswersOf(j, order); return y },
		"OrderByDeadlines":        func() []int64 { y, _ := impl.OrderByDeadlines(j); return y },
		"TurnsOfJobs":             func() []int64 { y, _ := impl.TurnsOfJobs(j); return y },
		"GapsOfTurns":             func() []int64 { y, _ := impl.GapsOfTurns(j); return y.Gaps },
		"JobsOfTasks's lengths":   func() []int64 { y, _ := impl.JobsOfTasks(tasks); return y.Lengths },
		"JobsOfTasks's periods":   func() []int64 { y, _ := impl.JobsOfTasks(tasks); return y.Periods },
		"JobsOfTasks's deadlines": func() []int64 { y, _ := impl.JobsOfTasks(tasks); return y.Deadlines },
		"the others": func() []int64 {
			impl.AreJobs(j)
			impl.CanMeet(j)
			above, below, _ := impl.LoadOf(j)
			whole, _ := impl.WholePeriod(j)
			at, who, _ := impl.FirstLate(j)
			demand, _ := impl.DemandUpTo(j, 1000)
			room, _ := impl.RoomOf(j)
			return []int64{above, below, whole, at, who, demand, room}
		},
	}
	for name, call := range calls {
		first := call()
		kept := slices.Clone(first)
		overwrite(first)
		for n, list := range lists {
			if len(kept) == 0 || !spareIsWhole(list, were[n]) {
				t.Fatalf("%s shares memory with an argument, or changes it", name)
			}
		}
		if !slices.Equal(call(), kept) {
			t.Errorf("%s returns something else on its second call", name)
		}
	}
}

// TestMemoryOfJobs writes over each list of jobs, for each number of tasks, and looks whether both
// others keep what they had.
func TestMemoryOfJobs(t *testing.T) {
	for k := 1; k <= impl.MaxTasks; k++ {
		was := [][]int64{times(k, 1), times(k, 5), times(k, 5)}
		for at := range was {
			j, _ := impl.JobsOfTasks(tasksOf(times(k, 9)...))
			lists := [][]int64{j.Lengths, j.Periods, j.Deadlines}
			overwrite(lists[at])
			for other, list := range lists {
				if other != at && !slices.Equal(list, was[other]) {
					t.Errorf("lists of JobsOfTasks for %d tasks share memory: %v", k, lists)
				}
			}
		}
	}
}
