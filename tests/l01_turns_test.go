package tests

import (
	"math"
	"math/big"
	"slices"
	"strconv"
	"strings"
	"testing"

	"loop.example/g01404/impl"
)

// badTasks1 are lists of gaps that are no tasks.
func badTasks1() []impl.Tasks {
	bad := []impl.Tasks{{}, tasksOf(), {Gaps: []int64{}}, tasksOf(0), tasksOf(-1), tasksOf(41), tasksOf(2, 41), tasksOf(40, 0), tasksOf(1, 2, 3, 4, 5, 6, 7, 41), {Gaps: times(9, 2)}, {Gaps: times(1000, 1)}}
	for _, far := range farNumbers {
		bad = append(bad, tasksOf(far), tasksOf(1, far), tasksOf(far, 1))
	}
	return bad
}

// badTurns1 are lists that are no turns of the tasks 0 to k - 1.
func badTurns1(k int64) [][]int64 {
	bad := [][]int64{nil, {}, times(121, 0), times(121, -1), times(5000, 0), {-2}, {k}, {0, -2}, {0, k}, append(times(119, 0), k), append(times(119, 0), -2)}
	for _, far := range farNumbers {
		bad = append(bad, []int64{far}, []int64{far, 0}, []int64{0, far})
	}
	return bad
}

// who1 returns who has a slot of turns that are repeated for ever.
func who1(turns []int64, slot int) int64 {
	n := len(turns)
	return turns[((slot%n)+n)%n]
}

// waits1 finds waits by walking from each turn to the next one.
func waits1(turns []int64, i int64) []int64 {
	var waits []int64
	for slot := range turns {
		if turns[slot] != i {
			continue
		}
		wait := 1
		for who1(turns, slot+wait) != i {
			wait++
		}
		waits = append(waits, int64(wait))
	}
	return waits
}

// miss1 finds the first miss by looking at each slot.
func miss1(gaps, turns []int64) (int64, int64, bool) {
	for slot := 0; slot < len(turns); slot++ {
		for i, gap := range gaps {
			missed := true
			for n := 0; n < int(gap); n++ {
				missed = missed && who1(turns, slot+n) != int64(i)
			}
			if missed {
				return int64(slot), int64(i), true
			}
		}
	}
	return 0, 0, false
}

// shift1 shifts turns slot by slot.
func shift1(turns []int64, n int) []int64 {
	shifted := make([]int64, len(turns))
	for slot := range shifted {
		shifted[slot] = who1(turns, slot+n)
	}
	return shifted
}

func TestConstants1(t *testing.T) {
	codes := []int64{impl.ErrNone, impl.ErrInvalid, impl.ErrRange, impl.ErrLimit, impl.ErrNotFound, impl.ErrState, impl.ErrSyntax}
	for want, code := range codes {
		if code != int64(want) {
			t.Errorf("the error code %d has the value %d", want, code)
		}
	}
	if impl.MaxTasks != 8 || impl.MaxGap != 40 || impl.MaxTurns != 120 {
		t.Errorf("limits %d, %d, %d", impl.MaxTasks, impl.MaxGap, impl.MaxTurns)
	}
}

func TestIsTasks(t *testing.T) {
	for _, good := range []impl.Tasks{tasksOf(1), tasksOf(40), tasksOf(2, 4, 4), {Gaps: times(8, 1)}, {Gaps: times(8, 40)}, tasksOf(40, 1, 20)} {
		if !impl.IsTasks(good) {
			t.Errorf("IsTasks(%v) = false", good)
		}
	}
	for gap := int64(-50); gap <= 50; gap++ {
		if impl.IsTasks(tasksOf(3, gap)) != (gap >= 1 && gap <= 40) {
			t.Errorf("IsTasks with the gap %d is wrong", gap)
		}
	}
	for n := range 20 {
		if impl.IsTasks(impl.Tasks{Gaps: times(n, 5)}) != (n >= 1 && n <= 8) {
			t.Errorf("IsTasks with %d tasks is wrong", n)
		}
	}
	for _, bad := range badTasks1() {
		if impl.IsTasks(bad) {
			t.Errorf("IsTasks(%v) = true", bad)
		}
	}
}

func checkDensity1(t *testing.T, gaps ...int64) {
	t.Helper()
	sum := new(big.Rat)
	for _, gap := range gaps {
		sum.Add(sum, big.NewRat(1, gap))
	}
	a, b, code := impl.DensityOf(tasksOf(gaps...))
	if code != impl.ErrNone || a != sum.Num().Int64() || b != sum.Denom().Int64() {
		t.Errorf("DensityOf(%v) = %d, %d, %d, not %v", gaps, a, b, code, sum)
	}
}

func TestDensityOf(t *testing.T) {
	if a, b, code := impl.DensityOf(tasksOf(2, 4, 4)); a != 1 || b != 1 || code != impl.ErrNone {
		t.Errorf("DensityOf = %d, %d, %d", a, b, code)
	}
	if a, b, code := impl.DensityOf(tasksOf(6, 6)); a != 1 || b != 3 || code != impl.ErrNone {
		t.Errorf("DensityOf = %d, %d, %d", a, b, code)
	}
	for i := int64(1); i <= 40; i++ {
		checkDensity1(t, i)
		for j := int64(1); j <= 40; j++ {
			checkDensity1(t, i, j)
			checkDensity1(t, j, i, 3, 40, 7, i)
		}
	}
	checkDensity1(t, times(8, 1)...)
	checkDensity1(t, times(8, 40)...)
	checkDensity1(t, 37, 31, 29, 23, 19, 17, 13, 11)
	checkDensity1(t, 37, 31, 29, 23, 32, 27, 25, 11)
	checkDensity1(t, 40, 39, 38, 37, 36, 35, 34, 33)
	for _, bad := range badTasks1() {
		a, b, code := impl.DensityOf(bad)
		wantCode(t, "DensityOf", code, impl.ErrInvalid, a == 0 && b == 0)
	}
}

func TestWaitsOf(t *testing.T) {
	cases := []struct {
		text  string
		i     int64
		waits []int64
	}{
		{"aabca", 0, []int64{1, 3, 1}}, {"abac", 0, []int64{2, 2}}, {"abac", 1, []int64{4}}, {"abac", 3, nil},
		{"a", 0, []int64{1}}, {"a", 1, nil}, {".", 0, nil}, {"....", 7, nil}, {"h", 7, []int64{1}}, {"..h..", 7, []int64{5}},
		{"ba.a", 0, []int64{2, 2}}, {".a.aa..", 0, []int64{2, 1, 4}}, {"aaa", 0, []int64{1, 1, 1}},
		{"a" + strings.Repeat(".", 119), 0, []int64{120}}, {strings.Repeat(".", 119) + "a", 0, []int64{120}}, {"ab" + strings.Repeat(".", 117) + "a", 0, []int64{119, 1}},
	}
	for _, c := range cases {
		if waits, code := impl.WaitsOf(slots(c.text), c.i); !slices.Equal(waits, c.waits) || code != impl.ErrNone {
			t.Errorf("WaitsOf(%q, %d) = %v, %d, not %v", c.text, c.i, waits, code, c.waits)
		}
	}
	for _, bad := range badTurns1(8) {
		for _, i := range []int64{0, 7, 8, -1, math.MinInt64} {
			waits, code := impl.WaitsOf(bad, i)
			wantCode(t, "WaitsOf", code, impl.ErrRange, waits == nil)
		}
	}
	for _, i := range append([]int64{-1, -2, 8, 9}, farNumbers...) {
		waits, code := impl.WaitsOf(slots("a.hb"), i)
		wantCode(t, "WaitsOf", code, impl.ErrRange, len(waits) == 0)
	}
}

func TestGreatestWaits(t *testing.T) {
	cases := []struct {
		text  string
		waits []int64
	}{
		{"aac", []int64{2, 0, 3}}, {"..", nil}, {".", nil}, {strings.Repeat(".", 120), nil}, {"a", []int64{1}}, {"h", []int64{0, 0, 0, 0, 0, 0, 0, 1}},
		{"abac", []int64{2, 4, 4}}, {"aabca", []int64{3, 5, 5}}, {"a.aa...", []int64{4}}, {".b" + strings.Repeat(".", 118), []int64{0, 120}},
		{"abcdefgh", times(8, 8)},
	}
	for _, c := range cases {
		if waits, code := impl.GreatestWaits(slots(c.text)); !slices.Equal(waits, c.waits) || code != impl.ErrNone {
			t.Errorf("GreatestWaits(%q) = %v, %d, not %v", c.text, waits, code, c.waits)
		}
	}
	for _, bad := range badTurns1(8) {
		waits, code := impl.GreatestWaits(bad)
		wantCode(t, "GreatestWaits", code, impl.ErrRange, len(waits) == 0)
	}
}

// TestPromise1 looks at the promise: waits add up to all slots, and turns that serve tasks serve
// them shifted and turned round.
func TestPromise1(t *testing.T) {
	gaps := [][]int64{{1}, {2, 4, 4}, {2, 3, 6}, {3, 3, 3}, {1, 40, 40}, {4, 4, 5}, {40, 40, 40}, {5, 2}, times(8, 40)}
	served := 0
	check := func(turns []int64) {
		for i := int64(0); i < impl.MaxTasks; i++ {
			waits, code := impl.WaitsOf(turns, i)
			sum := int64(0)
			for _, wait := range waits {
				sum += wait
			}
			if code != impl.ErrNone || sum != int64(len(turns)) && slices.Contains(turns, i) || sum != 0 && !slices.Contains(turns, i) {
				t.Fatalf("WaitsOf(%v, %d) = %v, %d", turns, i, waits, code)
			}
		}
		for _, list := range gaps {
			if yes, code := impl.DoServe(tasksOf(list...), turns); yes && code == impl.ErrNone {
				served++
				checkServed1(t, tasksOf(list...), turns)
			}
		}
	}
	shortTurns(6, 3, check)
	longTurns(check)
	if served < 100 {
		t.Errorf("only %d turns served", served)
	}
}

// checkServed1 looks whether turns that serve tasks serve them shifted, turned round and repeated.
func checkServed1(t *testing.T, tasks impl.Tasks, turns []int64) {
	t.Helper()
	for n := int64(0); n <= int64(len(turns)); n++ {
		shifted, code := impl.ShiftTurns(turns, n)
		if yes, also := impl.DoServe(tasks, shifted); !yes || code != impl.ErrNone || also != impl.ErrNone {
			t.Fatalf("%v serves %v, but not shifted by %d", turns, tasks, n)
		}
	}
	reversed, code := impl.ReverseTurns(turns)
	if yes, also := impl.DoServe(tasks, reversed); !yes || code != impl.ErrNone || also != impl.ErrNone {
		t.Fatalf("%v serves %v, but not turned round", turns, tasks)
	}
	if _, _, code := impl.FirstMiss(tasks, turns); code != impl.ErrNotFound {
		t.Fatalf("%v serves %v, but FirstMiss has the code %d", turns, tasks, code)
	}
}

func TestDoServeAndFirstMiss(t *testing.T) {
	cases := []struct {
		gaps    []int64
		text    string
		slot, i int64
		serve   bool
	}{
		{[]int64{2, 4, 4}, "abac", 0, 0, true}, {[]int64{2, 4, 4}, "aabc", 2, 0, false}, {[]int64{2, 4, 3}, "abac", 0, 2, false},
		{[]int64{2, 3, 4}, "abac", 2, 1, false}, {[]int64{1}, "a", 0, 0, true}, {[]int64{1}, ".", 0, 0, false}, {[]int64{1}, "a.a", 1, 0, false},
		{[]int64{40}, "a" + strings.Repeat(".", 39), 0, 0, true}, {[]int64{40}, "a" + strings.Repeat(".", 40), 1, 0, false}, {[]int64{39}, strings.Repeat(".", 39) + "a", 0, 0, false},
		{[]int64{40}, strings.Repeat(".", 40) + "a", 0, 0, false}, {[]int64{40}, strings.Repeat(".", 39) + "a", 0, 0, true},
		{[]int64{40}, ".", 0, 0, false}, {[]int64{1, 1}, "ab", 0, 1, false}, {[]int64{2, 2}, "ab", 0, 0, true}, {[]int64{1, 40}, "a", 0, 1, false},
		{[]int64{40, 40}, "b", 0, 0, false}, {times(8, 8), "abcdefgh", 0, 0, true}, {times(8, 8), "abcdefg", 0, 7, false}, {times(8, 8), "hgfedcba.", 1, 7, false},
		{[]int64{3, 3}, "ab..ba", 1, 0, false}, {[]int64{5, 2}, "abab.", 4, 1, false}, {times(1, 40), strings.Repeat("a"+strings.Repeat(".", 39), 3), 0, 0, true},
		{times(1, 39), strings.Repeat("a"+strings.Repeat(".", 39), 3), 1, 0, false}, {[]int64{5, 5}, "..ab..", 3, 0, false},
	}
	for _, c := range cases {
		tasks := tasksOf(c.gaps...)
		if yes, code := impl.DoServe(tasks, slots(c.text)); yes != c.serve || code != impl.ErrNone {
			t.Errorf("DoServe(%v, %q) = %v, %d", c.gaps, c.text, yes, code)
		}
		slot, i, code := impl.FirstMiss(tasks, slots(c.text))
		if c.serve {
			wantCode(t, "FirstMiss", code, impl.ErrNotFound, slot == 0 && i == 0)
		} else if slot != c.slot || i != c.i || code != impl.ErrNone {
			t.Errorf("FirstMiss(%v, %q) = %d, %d, %d, not %d, %d", c.gaps, c.text, slot, i, code, c.slot, c.i)
		}
	}
}

// TestTurnsAgainstModel holds the functions on tasks and turns against what is found slot by slot.
func TestTurnsAgainstModel(t *testing.T) {
	gaps := [][]int64{{2, 4, 4}, {1, 2, 3}, {5, 3, 4}, {7, 40, 6}, {40, 39, 38, 37, 36, 35, 34, 33}, {6, 8, 10, 12, 14, 16, 18, 20}}
	check := func(turns []int64) {
		most := int64(-1)
		for _, who := range turns {
			most = max(most, who)
		}
		var greatest []int64
		for i := int64(0); i <= most; i++ {
			want := waits1(turns, i)
			if waits, code := impl.WaitsOf(turns, i); !slices.Equal(waits, want) || code != impl.ErrNone {
				t.Fatalf("WaitsOf(%v, %d) = %v, %d, not %v", turns, i, waits, code, want)
			}
			greatest = append(greatest, slices.Max(append(want, 0)))
		}
		if waits, code := impl.GreatestWaits(turns); !slices.Equal(waits, greatest) || code != impl.ErrNone {
			t.Fatalf("GreatestWaits(%v) = %v, %d, not %v", turns, waits, code, greatest)
		}
		for _, list := range gaps {
			checkModel1(t, list, turns, most)
		}
	}
	shortTurns(5, 3, check)
	longTurns(check)
}

func checkModel1(t *testing.T, gaps, turns []int64, most int64) {
	t.Helper()
	tasks := tasksOf(gaps...)
	yes, code := impl.DoServe(tasks, turns)
	slot, i, missCode := impl.FirstMiss(tasks, turns)
	if most >= int64(len(gaps)) {
		wantCode(t, "DoServe", code, impl.ErrRange, !yes)
		wantCode(t, "FirstMiss", missCode, impl.ErrRange, slot == 0 && i == 0)
		return
	}
	wantSlot, wantI, missed := miss1(gaps, turns)
	if yes == missed || code != impl.ErrNone {
		t.Fatalf("DoServe(%v, %v) = %v, %d", gaps, turns, yes, code)
	}
	if slot != wantSlot || i != wantI || missed != (missCode == impl.ErrNone) || !missed && missCode != impl.ErrNotFound {
		t.Fatalf("FirstMiss(%v, %v) = %d, %d, %d", gaps, turns, slot, i, missCode)
	}
	shares, idle, code := impl.SharesOf(tasks, turns)
	sum := idle
	for i, share := range shares {
		sum += share
		if share != int64(len(waits1(turns, int64(i)))) {
			t.Fatalf("SharesOf(%v, %v) = %v", gaps, turns, shares)
		}
	}
	if code != impl.ErrNone || len(shares) != len(gaps) || sum != int64(len(turns)) {
		t.Fatalf("SharesOf(%v, %v) = %v, %d, %d", gaps, turns, shares, idle, code)
	}
}

// TestInvalidTasksAndTurns looks at the order of errors: tasks ahead of turns, turns ahead of what
// the sections list.
func TestInvalidTasksAndTurns(t *testing.T) {
	check := func(tasks impl.Tasks, turns []int64, want int64) {
		t.Helper()
		yes, code := impl.DoServe(tasks, turns)
		wantCode(t, "DoServe", code, want, !yes)
		slot, i, code := impl.FirstMiss(tasks, turns)
		wantCode(t, "FirstMiss", code, want, slot == 0 && i == 0)
		shares, idle, code := impl.SharesOf(tasks, turns)
		wantCode(t, "SharesOf", code, want, len(shares) == 0 && idle == 0)
		filled, code := impl.FillIdle(tasks, turns)
		wantCode(t, "FillIdle", code, want, len(filled) == 0)
	}
	for _, bad := range badTasks1() {
		check(bad, slots("a"), impl.ErrInvalid)
		check(bad, slots("abac..."), impl.ErrInvalid)
		check(bad, nil, impl.ErrInvalid)
		check(bad, []int64{-2}, impl.ErrInvalid)
		check(bad, times(121, 9), impl.ErrInvalid)
	}
	for k := int64(1); k <= 8; k++ {
		for _, bad := range badTurns1(k) {
			check(impl.Tasks{Gaps: times(int(k), 40)}, bad, impl.ErrRange)
		}
	}
}

func TestSharesOf(t *testing.T) {
	cases := []struct {
		k      int
		text   string
		shares []int64
		idle   int64
	}{
		{3, "ab.ac.", []int64{2, 1, 1}, 2}, {1, ".", []int64{0}, 1}, {1, "a", []int64{1}, 0}, {8, "h", []int64{0, 0, 0, 0, 0, 0, 0, 1}, 0},
		{2, strings.Repeat("b", 120), []int64{0, 120}, 0}, {8, strings.Repeat(".", 120), times(8, 0), 120}, {8, "hgfedcba", times(8, 1), 0},
	}
	for _, c := range cases {
		shares, idle, code := impl.SharesOf(impl.Tasks{Gaps: times(c.k, 3)}, slots(c.text))
		if !slices.Equal(shares, c.shares) || idle != c.idle || code != impl.ErrNone {
			t.Errorf("SharesOf(%q) = %v, %d, %d", c.text, shares, idle, code)
		}
	}
}

// TestShiftReverseRepeat holds turns shifted, turned round and repeated against those put together
// slot by slot.
func TestShiftReverseRepeat(t *testing.T) {
	check := func(turns []int64) {
		size := len(turns)
		for n := 0; n <= size; n++ {
			if y, code := impl.ShiftTurns(turns, int64(n)); !slices.Equal(y, shift1(turns, n)) || code != impl.ErrNone {
				t.Fatalf("ShiftTurns(%v, %d) = %v, %d", turns, n, y, code)
			}
		}
		y, code := impl.ReverseTurns(turns)
		for slot := range y {
			if len(y) != size || y[slot] != turns[size-1-slot] || code != impl.ErrNone {
				t.Fatalf("ReverseTurns(%v) = %v, %d", turns, y, code)
			}
		}
		wantCode(t, "ReverseTurns", code, impl.ErrNone, false)
		for n := 1; n*size <= impl.MaxTurns; n++ {
			y, code := impl.RepeatTurns(turns, int64(n))
			if len(y) != n*size || code != impl.ErrNone {
				t.Fatalf("RepeatTurns(%v, %d) = %v, %d", turns, n, y, code)
			}
			for slot := range y {
				if y[slot] != who1(turns, slot) {
					t.Fatalf("RepeatTurns(%v, %d) = %v", turns, n, y)
				}
			}
		}
		y, code = impl.RepeatTurns(turns, int64(impl.MaxTurns/size+1))
		want := int64(impl.ErrLimit)
		if size == 1 { // the number itself is too great
			want = impl.ErrRange
		}
		wantCode(t, "RepeatTurns", code, want, len(y) == 0)
	}
	shortTurns(4, 2, check)
	longTurns(check)
}

func TestShiftReverseRepeatErrors(t *testing.T) {
	for _, text := range []string{"a", "abac", strings.Repeat("a.", 60)} {
		for _, n := range append([]int64{-1, -2, int64(len(text)) + 1, 121, 240}, farNumbers...) {
			y, code := impl.ShiftTurns(slots(text), n)
			wantCode(t, "ShiftTurns", code, impl.ErrRange, len(y) == 0)
		}
		for _, n := range append([]int64{0, -1, 121}, farNumbers...) {
			y, code := impl.RepeatTurns(slots(text), n)
			wantCode(t, "RepeatTurns", code, impl.ErrRange, len(y) == 0)
		}
	}
	for text, n := range map[string]int64{"ab": 61, "abac": 31, strings.Repeat("a", 61): 2, strings.Repeat("a", 120): 2, "ab.": 120, strings.Repeat(".", 120): 120} {
		y, code := impl.RepeatTurns(slots(text), n)
		wantCode(t, "RepeatTurns", code, impl.ErrLimit, len(y) == 0)
	}
	for _, bad := range badTurns1(8) {
		for _, n := range []int64{0, 1, 2, 120, 121, -1, math.MaxInt64, math.MinInt64} {
			y, code := impl.ShiftTurns(bad, n)
			wantCode(t, "ShiftTurns", code, impl.ErrRange, len(y) == 0)
			y, code = impl.RepeatTurns(bad, n)
			wantCode(t, "RepeatTurns", code, impl.ErrRange, len(y) == 0)
		}
		y, code := impl.ReverseTurns(bad)
		wantCode(t, "ReverseTurns", code, impl.ErrRange, len(y) == 0)
	}
}

func TestPeriodAndLeastTurns(t *testing.T) {
	cases := []struct {
		text   string
		period int64
		least  string
		n      int64
	}{
		{"ababab", 2, "ababab", 0}, {"ababa", 5, "aabab", 4}, {"ba.ca", 5, ".caba", 2}, {"a", 1, "a", 0}, {".", 1, ".", 0}, {"....", 1, "....", 0},
		{"baba", 2, "abab", 1}, {"h.", 2, ".h", 1}, {"abcabc", 3, "abcabc", 0}, {"caabca", 6, "aabcac", 1}, {"aabaab", 3, "aabaab", 0},
		{strings.Repeat("b", 119) + "a", 120, "a" + strings.Repeat("b", 119), 119}, {strings.Repeat("ba.", 40), 3, strings.Repeat(".ba", 40), 2},
		{strings.Repeat("h", 120), 1, strings.Repeat("h", 120), 0}, {"abababac", 8, "abababac", 0}, {"aab", 3, "aab", 0},
	}
	for _, c := range cases {
		if p, code := impl.PeriodOf(slots(c.text)); p != c.period || code != impl.ErrNone {
			t.Errorf("PeriodOf(%q) = %d, %d", c.text, p, code)
		}
		if y, n, code := impl.LeastTurns(slots(c.text)); !slices.Equal(y, slots(c.least)) || n != c.n || code != impl.ErrNone {
			t.Errorf("LeastTurns(%q) = %v, %d, %d", c.text, y, n, code)
		}
	}
	for _, bad := range badTurns1(8) {
		p, code := impl.PeriodOf(bad)
		wantCode(t, "PeriodOf", code, impl.ErrRange, p == 0)
		y, n, code := impl.LeastTurns(bad)
		wantCode(t, "LeastTurns", code, impl.ErrRange, len(y) == 0 && n == 0)
	}
}

func TestPeriodAndLeastTurnsAgainstModel(t *testing.T) {
	check := func(turns []int64) {
		want, wantN, period := shift1(turns, 0), 0, len(turns)
		for n := len(turns) - 1; n >= 1; n-- {
			if len(turns)%n == 0 && slices.Equal(shift1(turns, n), turns) {
				period = n
			}
		}
		for n := range turns {
			if y := shift1(turns, n); slices.Compare(y, want) < 0 {
				want, wantN = y, n
			}
		}
		if p, code := impl.PeriodOf(turns); p != int64(period) || code != impl.ErrNone {
			t.Fatalf("PeriodOf(%v) = %d, %d, not %d", turns, p, code, period)
		}
		if y, n, code := impl.LeastTurns(turns); !slices.Equal(y, want) || n != int64(wantN) || code != impl.ErrNone {
			t.Fatalf("LeastTurns(%v) = %v, %d, %d, not %v, %d", turns, y, n, code, want, wantN)
		}
	}
	shortTurns(6, 2, check)
	longTurns(check)
	for size := 1; size <= 60; size++ { // long turns that repeat
		part := slots("ab.c" + strings.Repeat("a", 56))[:size]
		check(slices.Repeat(part, impl.MaxTurns/size))
	}
}

func TestFillIdle(t *testing.T) {
	cases := []struct {
		k          int
		text, want string
	}{
		{3, "a..", "abc"}, {2, "ab.b", "abab"}, {1, ".", "a"}, {1, "a", "a"}, {1, "....", "aaaa"}, {2, "....", "abab"}, {8, "..........", "abcdefghab"},
		{3, "abac", "abac"}, {2, ".ab", "aab"}, {2, ".ba", "bba"}, {2, ".ab.b", "aabab"}, {3, "..a..", "bcabc"}, {3, "c...", "cabc"}, {3, ".bb.", "abbc"},
		{8, ".", "a"}, {8, "h......", "habcdef"}, {2, "ba.", "bab"}, {2, strings.Repeat(".", 120), strings.Repeat("ab", 60)}, {3, "abc...", "abcabc"}, {3, "cba...", "cbacba"},
		{3, ".cab.", "ccabc"},
	}
	for _, c := range cases {
		if y, code := impl.FillIdle(impl.Tasks{Gaps: times(c.k, 9)}, slots(c.text)); !slices.Equal(y, slots(c.want)) || code != impl.ErrNone {
			t.Errorf("FillIdle(%d tasks, %q) = %v, %d, not %q", c.k, c.text, y, code, c.want)
		}
	}
	check := func(turns []int64) {
		for _, k := range []int{3, 8} {
			if slices.Max(turns) >= int64(k) {
				continue
			}
			y, code := impl.FillIdle(impl.Tasks{Gaps: times(k, 9)}, turns)
			if want := fill1(k, turns); !slices.Equal(y, want) || code != impl.ErrNone {
				t.Fatalf("FillIdle(%d tasks, %v) = %v, %d, not %v", k, turns, y, code, want)
			}
		}
	}
	shortTurns(6, 3, check)
	longTurns(check)
}

// fill1 fills idle slots by looking back, from each of them, for as long as tasks come that have
// not come before: the last one to come is taken, or the least one that does not come.
func fill1(k int, turns []int64) []int64 {
	filled := slices.Clone(turns)
	for slot := range filled {
		if filled[slot] != -1 {
			continue
		}
		var came []int64
		for back := 1; back < len(filled); back++ {
			if who := who1(filled, slot-back); who != -1 && !slices.Contains(came, who) {
				came = append(came, who)
			}
		}
		if len(came) == k {
			filled[slot] = came[k-1]
			continue
		}
		least := int64(0)
		for slices.Contains(came, least) {
			least++
		}
		filled[slot] = least
	}
	return filled
}

func TestRenumberTasks(t *testing.T) {
	cases := []struct{ gaps, p, want []int64 }{
		{[]int64{5, 6, 7}, []int64{2, 0, 1}, []int64{6, 7, 5}}, {[]int64{5, 6, 7}, []int64{0, 1, 2}, []int64{5, 6, 7}}, {[]int64{1}, []int64{0}, []int64{1}},
		{[]int64{40, 1}, []int64{1, 0}, []int64{1, 40}}, {[]int64{1, 2, 3, 4, 5, 6, 7, 8}, []int64{7, 0, 1, 2, 3, 4, 5, 6}, []int64{2, 3, 4, 5, 6, 7, 8, 1}},
	}
	for _, c := range cases {
		if y, code := impl.RenumberTasks(tasksOf(c.gaps...), c.p); !slices.Equal(y.Gaps, c.want) || code != impl.ErrNone {
			t.Errorf("RenumberTasks(%v, %v) = %v, %d", c.gaps, c.p, y, code)
		}
	}
	bad := [][]int64{nil, {}, {0}, {0, 1}, {0, 1, 2, 3}, {1, 2, 3}, {0, 0, 1}, {0, 1, 1}, {-1, 0, 1}, {0, 1, -1}, {0, 1, 3}, {2, 2, 2}, times(9, 0), times(2000, 1)}
	for _, far := range farNumbers {
		bad = append(bad, []int64{0, 1, far}, []int64{far, 1, 2}, []int64{far})
	}
	for _, p := range bad {
		y, code := impl.RenumberTasks(tasksOf(5, 6, 7), p)
		wantCode(t, "RenumberTasks", code, impl.ErrRange, len(y.Gaps) == 0)
	}
	for _, tasks := range badTasks1() {
		for _, p := range append(bad, []int64{0}, []int64{1, 0}) {
			y, code := impl.RenumberTasks(tasks, p)
			wantCode(t, "RenumberTasks", code, impl.ErrInvalid, len(y.Gaps) == 0)
		}
	}
}

func TestSortTasks(t *testing.T) {
	cases := []struct{ gaps, sorted, from []int64 }{
		{[]int64{5, 3, 5, 2}, []int64{2, 3, 5, 5}, []int64{3, 1, 0, 2}}, {[]int64{1}, []int64{1}, []int64{0}}, {[]int64{40, 1}, []int64{1, 40}, []int64{1, 0}},
		{times(8, 7), times(8, 7), []int64{0, 1, 2, 3, 4, 5, 6, 7}}, {[]int64{2, 1, 2, 1, 2, 1, 2, 1}, []int64{1, 1, 1, 1, 2, 2, 2, 2}, []int64{1, 3, 5, 7, 0, 2, 4, 6}},
		{[]int64{10, 9, 2, 33}, []int64{2, 9, 10, 33}, []int64{2, 1, 0, 3}}, {[]int64{8, 7, 6, 5, 4, 3, 2, 1}, []int64{1, 2, 3, 4, 5, 6, 7, 8}, []int64{7, 6, 5, 4, 3, 2, 1, 0}},
	}
	for _, c := range cases {
		y, from, code := impl.SortTasks(tasksOf(c.gaps...))
		if !slices.Equal(y.Gaps, c.sorted) || !slices.Equal(from, c.from) || code != impl.ErrNone {
			t.Errorf("SortTasks(%v) = %v, %v, %d", c.gaps, y, from, code)
		}
	}
	for _, bad := range badTasks1() {
		y, from, code := impl.SortTasks(bad)
		wantCode(t, "SortTasks", code, impl.ErrInvalid, len(y.Gaps) == 0 && len(from) == 0)
	}
}

func TestTurnsTexts(t *testing.T) {
	for _, text := range []string{"a", ".", "h", "abac", "ab.ac.", ".abcdefgh", strings.Repeat(".", 120), strings.Repeat("h", 120), strings.Repeat("ab.h", 30)} {
		if y, code := impl.ParseTurns(text); !slices.Equal(y, slots(text)) || code != impl.ErrNone {
			t.Errorf("ParseTurns(%q) = %v, %d", text, y, code)
		}
		if y, code := impl.TurnsText(slots(text)); y != text || code != impl.ErrNone {
			t.Errorf("TurnsText(%v) = %q, %d", slots(text), y, code)
		}
	}
	check := func(turns []int64) {
		text, code := impl.TurnsText(turns)
		y, also := impl.ParseTurns(text)
		if !slices.Equal(y, turns) || code != impl.ErrNone || also != impl.ErrNone {
			t.Fatalf("%v has the text %q, which has %v", turns, text, y)
		}
	}
	shortTurns(5, 3, check)
	longTurns(check)
	for _, bad := range badTurns1(8) {
		text, code := impl.TurnsText(bad)
		wantCode(t, "TurnsText", code, impl.ErrRange, text == "")
	}
}

func TestTextsOfNoTurns(t *testing.T) {
	bad := []string{"", " ", "A", "H", "i", "ai", "a b", "a-", "-1", "0", "a,b", " a", "a ", "abac\n", "\x00", "ä", "a\xff", "а", strings.Repeat("a", 121), strings.Repeat(".", 121), strings.Repeat("a", 100000), strings.Repeat("a", 119) + "i"}
	for _, text := range bad {
		y, code := impl.ParseTurns(text)
		wantCode(t, "ParseTurns("+strconv.Quote(text)+")", code, impl.ErrSyntax, len(y) == 0)
	}
	for b := 0; b < 256; b++ { // each byte by itself and behind a turn
		letter := string([]byte{byte(b)})
		good := letter == "." || letter >= "a" && letter <= "h"
		for _, text := range []string{letter, "a" + letter} {
			if y, code := impl.ParseTurns(text); good != (code == impl.ErrNone) || good != (len(y) > 0) {
				t.Errorf("ParseTurns(%q) = %v, %d", text, y, code)
			}
		}
	}
}

func TestTasksTexts(t *testing.T) {
	cases := map[string][]int64{"1": {1}, "40": {40}, "2,4,4": {2, 4, 4}, "10,9,1,20,30": {10, 9, 1, 20, 30}, "40,40,40,40,40,40,40,40": times(8, 40), "1,1,1,1,1,1,1,1": times(8, 1)}
	for gap := int64(1); gap <= 40; gap++ {
		cases[strconv.FormatInt(gap, 10)+",7"] = []int64{gap, 7}
	}
	for text, gaps := range cases {
		if y, code := impl.ParseTasks(text); !slices.Equal(y.Gaps, gaps) || code != impl.ErrNone {
			t.Errorf("ParseTasks(%q) = %v, %d", text, y, code)
		}
		if y, code := impl.TasksText(tasksOf(gaps...)); y != text || code != impl.ErrNone {
			t.Errorf("TasksText(%v) = %q, %d", gaps, y, code)
		}
	}
	for _, bad := range badTasks1() {
		text, code := impl.TasksText(bad)
		wantCode(t, "TasksText", code, impl.ErrInvalid, text == "")
	}
	texts := []string{"", ",", "0", "41", "2,", ",2", "2,,3", "02", "2,04", "00", "2;3", "+2", "-2", "2, 3", " 2", "2 ", "2\n", "a", "2.0", "1e1", "0x2", "٢", "2_0", "100", "400", "4,0", "9223372036854775807", "9223372036854775808", "-9223372036854775808", "18446744073709551618", "1,1,1,1,1,1,1,1,1", "1,1,1,1,1,1,1,1,", strings.Repeat("1,", 50000) + "1", strings.Repeat("1", 50000), "2\x00", "\xff"}
	for _, text := range texts {
		y, code := impl.ParseTasks(text)
		wantCode(t, "ParseTasks("+strconv.Quote(text)+")", code, impl.ErrSyntax, len(y.Gaps) == 0)
	}
}

// TestMemory1 writes over results, and looks whether arguments, what stands behind their ends, and
// the other results of the call keep what they had.
func TestMemory1(t *testing.T) {
	gapsWere, turnsWere, orderWas := []int64{5, 3, 4}, slots("ab.c.a"), []int64{2, 0, 1}
	gaps, turns, order := withSpare(gapsWere), withSpare(turnsWere), withSpare(orderWas)
	tasks := impl.Tasks{Gaps: gaps}
	list := func(y []int64, code int64) []int64 {
		if code != impl.ErrNone || len(y) == 0 {
			t.Errorf("a result is missing: %v, %d", y, code)
		}
		return y
	}
	calls := map[string]func() []int64{
		"WaitsOf":       func() []int64 { return list(impl.WaitsOf(turns, 0)) },
		"GreatestWaits": func() []int64 { return list(impl.GreatestWaits(turns)) },
		"SharesOf":      func() []int64 { y, _, code := impl.SharesOf(tasks, turns); return list(y, code) },
		"ShiftTurns":    func() []int64 { return list(impl.ShiftTurns(turns, 2)) },
		"ShiftTurns 0":  func() []int64 { return list(impl.ShiftTurns(turns, 0)) },
		"ShiftTurns 6":  func() []int64 { return list(impl.ShiftTurns(turns, 6)) },
		"ReverseTurns":  func() []int64 { return list(impl.ReverseTurns(turns)) },
		"RepeatTurns 1": func() []int64 { return list(impl.RepeatTurns(turns, 1)) },
		"RepeatTurns":   func() []int64 { return list(impl.RepeatTurns(turns, 2)) },
		"LeastTurns":    func() []int64 { y, _, code := impl.LeastTurns(turns); return list(y, code) },
		"FillIdle":      func() []int64 { return list(impl.FillIdle(tasks, turns)) },
		"RenumberTasks": func() []int64 { y, code := impl.RenumberTasks(tasks, order); return list(y.Gaps, code) },
		"SortTasks":     func() []int64 { y, _, code := impl.SortTasks(tasks); return list(y.Gaps, code) },
		"SortTasks of":  func() []int64 { _, y, code := impl.SortTasks(tasks); return list(y, code) },
		"ParseTurns":    func() []int64 { return list(impl.ParseTurns("ab.c")) },
		"ParseTasks":    func() []int64 { y, code := impl.ParseTasks("2,3"); return list(y.Gaps, code) },
	}
	for name, call := range calls {
		first := call()
		kept := slices.Clone(first)
		overwrite(first)
		if !spareIsWhole(gaps, gapsWere) || !spareIsWhole(turns, turnsWere) || !spareIsWhole(order, orderWas) {
			t.Fatalf("%s shares memory with an argument, or changes it", name)
		}
		if !slices.Equal(call(), kept) {
			t.Errorf("%s returns something else on its second call", name)
		}
	}
	y, from, _ := impl.SortTasks(tasks)
	overwrite(y.Gaps)
	if !slices.Equal(from, []int64{1, 2, 0}) {
		t.Errorf("both results of SortTasks share memory")
	}
}

// TestMemoryOfLeast looks at turns that are their own least ones, and at turns without idle slots:
// the result has what the argument has, and is another list all the same.
func TestMemoryOfLeast(t *testing.T) {
	turns := withSpare(slots("aab"))
	least, _, _ := impl.LeastTurns(turns)
	filled, _ := impl.FillIdle(tasksOf(2, 3), turns)
	for _, y := range [][]int64{least, filled} {
		if !slices.Equal(y, slots("aab")) {
			t.Errorf("the result is %v", y)
		}
		overwrite(y)
		if !spareIsWhole(turns, slots("aab")) {
			t.Fatalf("the result shares memory with the argument")
		}
	}
	impl.DoServe(tasksOf(2, 3), turns)
	impl.FirstMiss(tasksOf(2, 3), turns)
	impl.PeriodOf(turns)
	impl.TurnsText(turns)
	if !spareIsWhole(turns, slots("aab")) {
		t.Errorf("turns are changed")
	}
}
