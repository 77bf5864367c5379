package tests

import (
	"fmt"
	"math/big"
	"math/rand"
	"slices"
	"strings"
	"testing"

	"loop.example/g01404/impl"
)

// fold3 folds the tasks i and j, task by task.
func fold3(gaps []int64, i, j int) ([]int64, int64) {
	if gaps[i] == 1 || gaps[j] == 1 {
		return nil, impl.ErrState
	}
	var folded []int64
	for n, gap := range gaps {
		switch n {
		case j:
		case i:
			folded = append(folded, slices.Min([]int64{gaps[i], gaps[j]})/2)
		default:
			folded = append(folded, gap)
		}
	}
	return folded, impl.ErrNone
}

// divide3 divides the turns of the task i by repeating them till the tasks among which they are
// dealt come out even.
func divide3(turns []int64, i, m int64) ([]int64, int64) {
	if !slices.Contains(turns, i) {
		return nil, impl.ErrNotFound
	}
	among := []int64{i}
	for next := slices.Max(turns) + 1; int64(len(among)) < m; next++ {
		among = append(among, next)
	}
	if slices.Max(among) > impl.MaxTasks-1 {
		return nil, impl.ErrLimit
	}
	var divided []int64
	at := 0
	for {
		for _, who := range turns {
			if who == i {
				who = among[at]
				at = (at + 1) % len(among)
			}
			divided = append(divided, who)
		}
		if at == 0 {
			break
		}
	}
	if len(divided) > impl.MaxTurns {
		return nil, impl.ErrLimit
	}
	return divided, impl.ErrNone
}

// lessen3 lessens gaps that are not less than x.
func lessen3(gaps []int64, x int64) []int64 {
	var lessened []int64
	for _, gap := range gaps {
		greatest := int64(0)
		for _, times := range []int64{1, 2, 4, 8, 16, 32} {
			if x*times <= gap {
				greatest = x * times
			}
		}
		lessened = append(lessened, greatest)
	}
	return lessened
}

// harmonic3 looks at all pairs of gaps.
func harmonic3(gaps []int64) bool {
	for _, a := range gaps {
		for _, b := range gaps {
			if a%b != 0 && b%a != 0 {
				return false
			}
		}
	}
	return true
}

// isDense3 reports whether the density of gaps is greater than 1.
func isDense3(gaps []int64) bool {
	density := new(big.Rat)
	for _, gap := range gaps {
		density.Add(density, big.NewRat(1, gap))
	}
	return density.Cmp(big.NewRat(1, 1)) > 0
}

// harmonicTurns3 makes harmonic turns slot by slot: each slot that is still free goes to the first
// task that waits for its first one, and is kept for it in all rounds.
func harmonicTurns3(gaps []int64) ([]int64, int64) {
	if !harmonic3(gaps) {
		return nil, impl.ErrState
	}
	if isDense3(gaps) {
		return nil, impl.ErrNotFound
	}
	var waiting []int64
	for gap := int64(1); gap <= impl.MaxGap; gap++ {
		for i := range gaps {
			if gaps[i] == gap {
				waiting = append(waiting, int64(i))
			}
		}
	}
	turns := times(int(slices.Max(gaps)), -1)
	for slot := range turns {
		if turns[slot] < 0 && len(waiting) > 0 {
			who := waiting[0]
			waiting = waiting[1:]
			for later := range turns {
				if later%int(gaps[who]) == slot%int(gaps[who]) {
					turns[later] = who
				}
			}
		}
	}
	return turns, impl.ErrNone
}

// gapLists3 are lists of gaps of each number of tasks: harmonic ones, lists near the density 1, and
// any, the same ones on each run.
func gapLists3() [][]int64 {
	lists := [][]int64{{1}, {2}, {40}, {1, 1}, {2, 2}, {2, 3}, {40, 1}, {20, 40, 40}, {2, 4, 8, 16, 32, 32}, {3, 3, 3}, times(8, 8), times(8, 7), times(8, 40), times(8, 1), {9, 8, 8, 8, 8, 8, 8, 8}}
	chains := [][]int64{{1, 2, 4, 8, 16, 32}, {2, 4, 8, 16, 32}, {3, 6, 12, 24}, {4, 8, 16, 32}, {5, 10, 20, 40}, {2, 6, 18, 36}, {3, 9, 36}, {4, 12, 36}, {8, 40}, {6, 12, 36}, {7, 14, 28}, {2, 10, 20, 40}}
	numbers := rand.New(rand.NewSource(3))
	for range 1500 {
		chain := chains[numbers.Intn(len(chains))]
		harmonic, other := make([]int64, 1+numbers.Intn(8)), make([]int64, 1+numbers.Intn(8))
		for i := range harmonic {
			harmonic[i] = chain[numbers.Intn(len(chain))]
		}
		least := 1 + int64(numbers.Intn(2*len(other)))
		for i := range other {
			other[i] = least + numbers.Int63n(impl.MaxGap+1-least)
		}
		lists = append(lists, harmonic, other)
	}
	eachGaps2(60, func(gaps []int64) { lists = append(lists, gaps) })
	return lists
}

// wantTurns3 fails the test if turns and a code are not those wanted.
func wantTurns3(t *testing.T, call string, turns, want []int64, code, wantErr int64) {
	t.Helper()
	if !slices.Equal(turns, want) || code != wantErr {
		t.Errorf("%s = %v, %d, not %v, %d", call, turns, code, want, wantErr)
	}
}

func TestFoldTasks(t *testing.T) {
	cases := []struct {
		gaps []int64
		i, j int64
		want []int64
	}{
		{[]int64{3, 5, 4, 9}, 1, 2, []int64{3, 2, 9}}, {[]int64{4, 4}, 0, 1, []int64{2}}, {[]int64{2, 2}, 0, 1, []int64{1}}, {[]int64{2, 40}, 0, 1, []int64{1}}, {[]int64{40, 3}, 0, 1, []int64{1}},
		{[]int64{40, 40}, 0, 1, []int64{20}}, {[]int64{40, 39}, 0, 1, []int64{19}}, {[]int64{5, 6, 7}, 0, 2, []int64{2, 6}}, {[]int64{7, 6, 1}, 0, 1, []int64{3, 1}}, {[]int64{1, 9, 8}, 1, 2, []int64{1, 4}},
		{[]int64{10, 12, 14, 16, 18, 20, 22, 24}, 0, 1, []int64{5, 14, 16, 18, 20, 22, 24}}, {[]int64{10, 12, 14, 16, 18, 20, 22, 24}, 6, 7, []int64{10, 12, 14, 16, 18, 20, 11}},
		{[]int64{10, 12, 14, 16, 18, 20, 22, 24}, 0, 7, []int64{5, 12, 14, 16, 18, 20, 22}}, {[]int64{10, 12, 14, 16, 18, 20, 3, 24}, 2, 6, []int64{10, 12, 1, 16, 18, 20, 24}},
		{[]int64{1, 5}, 0, 1, nil}, {[]int64{5, 1}, 0, 1, nil}, {[]int64{1, 1}, 0, 1, nil}, {[]int64{4, 4, 1}, 0, 2, nil}, {times(8, 1), 6, 7, nil},
	}
	for _, c := range cases {
		folded, code := impl.FoldTasks(tasksOf(c.gaps...), c.i, c.j)
		if c.want == nil {
			wantCode(t, fmt.Sprint("FoldTasks", c), code, impl.ErrState, len(folded.Gaps) == 0)
		} else if !slices.Equal(folded.Gaps, c.want) || code != impl.ErrNone {
			t.Errorf("FoldTasks(%v, %d, %d) = %v, %d", c.gaps, c.i, c.j, folded.Gaps, code)
		}
	}
	for _, gaps := range gapLists3() {
		for j := range gaps {
			for i := range j {
				want, wantErr := fold3(gaps, i, j)
				folded, code := impl.FoldTasks(tasksOf(gaps...), int64(i), int64(j))
				wantTurns3(t, fmt.Sprint("FoldTasks", gaps, i, j), folded.Gaps, want, code, wantErr)
			}
		}
	}
}

func TestFoldTasksErrors(t *testing.T) {
	for _, bad := range badTasks1() {
		for _, i := range []int64{0, 1, -1, 9} {
			folded, code := impl.FoldTasks(bad, i, 1)
			wantCode(t, fmt.Sprint("FoldTasks", bad, i), code, impl.ErrInvalid, len(folded.Gaps) == 0)
		}
	}
	for _, gaps := range [][]int64{{5}, {1}, {5, 6}, {1, 1}, {5, 1, 6}, times(8, 9), times(8, 1)} {
		k := int64(len(gaps))
		numbers := append([]int64{-2, -1, k, k + 1, 256}, farNumbers...)
		for i := range k {
			numbers = append(numbers, i)
		}
		for _, i := range numbers {
			for _, j := range numbers {
				if i >= 0 && i < j && j < k {
					continue
				}
				folded, code := impl.FoldTasks(tasksOf(gaps...), i, j)
				wantCode(t, fmt.Sprint("FoldTasks", gaps, i, j), code, impl.ErrRange, len(folded.Gaps) == 0)
			}
		}
	}
}

func TestDivideTurns(t *testing.T) {
	cases := []struct {
		text string
		i, m int64
		want string
	}{
		{"ab", 1, 2, "abac"}, {"aba.", 0, 2, "abc."}, {"a", 0, 2, "ab"}, {"a", 0, 8, "abcdefgh"}, {"ab", 0, 2, "abcb"}, {"ba", 0, 3, "babcbd"}, {"b", 1, 2, "bc"}, {"b", 1, 7, "bcdefgh"}, {"g", 6, 2, "gh"},
		{"aaab", 0, 3, "acdb"}, {"aab", 0, 3, "acb" + "dab" + "cdb"}, {"aaaab", 0, 6, "acdeb" + "fgacb" + "defgb"}, {"aaaaaaaa", 0, 8, "abcdefgh"}, {"aaaaaa", 0, 4, "abcdab" + "cdabcd"},
		{"ac", 0, 2, "acdc"}, {"ca", 2, 2, "cada"}, {"ag", 0, 2, "aghg"}, {"ga", 6, 2, "gaha"}, {".a", 0, 2, ".a.b"}, {"abacabad", 0, 2, "abecabed"}, {"a.a.a", 0, 2, "a.b.a" + "b.a.b"},
	}
	for _, c := range cases {
		divided, code := impl.DivideTurns(slots(c.text), c.i, c.m)
		wantTurns3(t, fmt.Sprint("DivideTurns ", c.text, c.i, c.m), divided, slots(c.want), code, impl.ErrNone)
	}
}

// TestDivideTurnsLimits has just MaxTasks tasks and just MaxTurns slots, and more of both.
func TestDivideTurnsLimits(t *testing.T) {
	cases := []struct {
		turns []int64
		i, m  int64
		code  int64
	}{
		{slots("a"), 0, 8, impl.ErrNone}, {slots("b"), 1, 7, impl.ErrNone}, {slots("b"), 1, 8, impl.ErrLimit}, {slots("ab"), 0, 7, impl.ErrNone}, {slots("ab"), 0, 8, impl.ErrLimit}, {slots("ag"), 0, 2, impl.ErrNone}, {slots("ag"), 0, 3, impl.ErrLimit},
		{slots("ah"), 0, 2, impl.ErrLimit}, {slots("h"), 7, 2, impl.ErrLimit}, {slots("h"), 7, 8, impl.ErrLimit}, {slots("abcdefgh"), 3, 2, impl.ErrLimit},
		{append(times(59, -1), 0), 0, 2, impl.ErrNone}, {append(times(60, -1), 0), 0, 2, impl.ErrLimit}, {append(times(14, -1), 0), 0, 8, impl.ErrNone}, {append(times(15, -1), 0), 0, 8, impl.ErrLimit},
		{append(times(118, -1), 0, 0), 0, 2, impl.ErrNone}, {append(times(119, -1), 0), 0, 2, impl.ErrLimit}, {times(120, 0), 0, 8, impl.ErrNone}, {times(120, 0), 0, 7, impl.ErrLimit}, {times(119, 0), 0, 7, impl.ErrNone}, {times(60, 0), 0, 8, impl.ErrNone}, {times(62, 0), 0, 8, impl.ErrLimit}, {times(30, 0), 0, 8, impl.ErrNone},
		{slots("b"), 0, 2, impl.ErrNotFound}, {slots("."), 0, 2, impl.ErrNotFound}, {slots("a"), 7, 2, impl.ErrNotFound}, {times(120, 0), 1, 2, impl.ErrNotFound},
		// Who has no turn is told ahead of what would be too many.
		{slots("h"), 0, 8, impl.ErrNotFound}, {slots("abcdefg"), 7, 2, impl.ErrNotFound}, {times(61, 7), 0, 2, impl.ErrNotFound}, {times(120, -1), 7, 8, impl.ErrNotFound},
	}
	for _, c := range cases {
		divided, code := impl.DivideTurns(c.turns, c.i, c.m)
		wantCode(t, fmt.Sprint("DivideTurns", c.turns, c.i, c.m), code, c.code, len(divided) == 0)
		want, _ := divide3(c.turns, c.i, c.m)
		wantTurns3(t, fmt.Sprint("DivideTurns", c.turns, c.i, c.m), divided, want, code, c.code)
	}
}

func TestDivideTurnsAgainstModel(t *testing.T) {
	divided := 0
	check := func(turns []int64) {
		for i := int64(0); i < impl.MaxTasks; i++ {
			for m := int64(2); m <= impl.MaxTasks; m++ {
				want, wantErr := divide3(turns, i, m)
				got, code := impl.DivideTurns(turns, i, m)
				if !slices.Equal(got, want) || code != wantErr {
					t.Fatalf("DivideTurns(%v, %d, %d) = %v, %d, not %v, %d", turns, i, m, got, code, want, wantErr)
				}
				if code == impl.ErrNone {
					divided++
				}
			}
		}
	}
	shortTurns(5, 3, check)
	longTurns(check)
	if divided < 1000 {
		t.Errorf("only %d turns are divided", divided)
	}
}

func TestDivideTurnsErrors(t *testing.T) {
	for _, bad := range badTurns1(8) {
		for _, i := range []int64{0, 7, 8} {
			divided, code := impl.DivideTurns(bad, i, 2)
			wantCode(t, fmt.Sprint("DivideTurns", bad, i), code, impl.ErrRange, len(divided) == 0)
		}
	}
	// Numbers out of range come ahead of a task without a turn, and of limits.
	for _, turns := range [][]int64{slots("a"), slots("h"), slots("."), times(120, 0), slots("abcdefgh")} {
		for _, i := range append([]int64{-2, -1, 8, 9, 256}, farNumbers...) {
			divided, code := impl.DivideTurns(turns, i, 2)
			wantCode(t, fmt.Sprint("DivideTurns", turns, i, 2), code, impl.ErrRange, len(divided) == 0)
		}
		for _, m := range append([]int64{-2, -1, 0, 1, 9, 10, 256}, farNumbers...) {
			for _, i := range []int64{-1, 0, 1, 7} {
				divided, code := impl.DivideTurns(turns, i, m)
				wantCode(t, fmt.Sprint("DivideTurns", turns, i, m), code, impl.ErrRange, len(divided) == 0)
			}
		}
	}
}

func TestLessenGaps(t *testing.T) {
	cases := []struct {
		gaps []int64
		x    int64
		want []int64
	}{
		{[]int64{3, 7, 13}, 3, []int64{3, 6, 12}}, {[]int64{3, 7, 13}, 1, []int64{2, 4, 8}}, {[]int64{3, 7, 13}, 2, []int64{2, 4, 8}}, {[]int64{1}, 1, []int64{1}}, {[]int64{40}, 40, []int64{40}}, {[]int64{40}, 1, []int64{32}},
		{[]int64{40, 39, 38}, 38, []int64{38, 38, 38}}, {[]int64{40, 20, 10, 5}, 5, []int64{40, 20, 10, 5}}, {[]int64{39, 19, 9, 5}, 5, []int64{20, 10, 5, 5}}, {[]int64{7, 7, 7, 7, 7, 7, 7, 7}, 7, times(8, 7)}, {times(8, 40), 21, times(8, 21)}, {times(8, 40), 20, times(8, 40)},
	}
	for _, c := range cases {
		lessened, code := impl.LessenGaps(tasksOf(c.gaps...), c.x)
		wantTurns3(t, fmt.Sprint("LessenGaps", c.gaps, c.x), lessened.Gaps, c.want, code, impl.ErrNone)
	}
	for _, gaps := range gapLists3() {
		for x := int64(1); x <= impl.MaxGap; x++ {
			lessened, code := impl.LessenGaps(tasksOf(gaps...), x)
			if x > slices.Min(gaps) {
				wantCode(t, fmt.Sprint("LessenGaps", gaps, x), code, impl.ErrState, len(lessened.Gaps) == 0)
			} else {
				wantTurns3(t, fmt.Sprint("LessenGaps", gaps, x), lessened.Gaps, lessen3(gaps, x), code, impl.ErrNone)
			}
		}
		for _, x := range append([]int64{-2, -1, 0, 41, 42, 256}, farNumbers...) {
			lessened, code := impl.LessenGaps(tasksOf(gaps...), x)
			wantCode(t, fmt.Sprint("LessenGaps", gaps, x), code, impl.ErrRange, len(lessened.Gaps) == 0)
		}
	}
	for _, bad := range badTasks1() {
		for _, x := range []int64{1, 40, 0, 41} {
			lessened, code := impl.LessenGaps(bad, x)
			wantCode(t, fmt.Sprint("LessenGaps", bad, x), code, impl.ErrInvalid, len(lessened.Gaps) == 0)
		}
	}
}

func TestAreHarmonic(t *testing.T) {
	yes := [][]int64{{1}, {40}, {12, 3, 6}, {40, 1}, {5, 5}, {1, 1, 1}, times(8, 40), {40, 20, 10, 5, 1}, {1, 2, 4, 8, 16, 32, 32, 1}, {36, 12, 4, 2}, {7, 28, 14}}
	no := [][]int64{{12, 8}, {2, 3}, {40, 39}, {2, 4, 6}, {2, 4, 8, 12}, {12, 6, 4}, {1, 2, 4, 8, 16, 32, 32, 40}, {3, 6, 12, 18, 36}, {6, 4}}
	for _, gaps := range yes {
		if harmonic, code := impl.AreHarmonic(tasksOf(gaps...)); !harmonic || code != impl.ErrNone {
			t.Errorf("AreHarmonic(%v) = %v, %d", gaps, harmonic, code)
		}
	}
	for _, gaps := range append(no, gapLists3()...) {
		if harmonic, code := impl.AreHarmonic(tasksOf(gaps...)); harmonic != harmonic3(gaps) || code != impl.ErrNone {
			t.Errorf("AreHarmonic(%v) = %v, %d", gaps, harmonic, code)
		}
	}
	for _, bad := range badTasks1() {
		harmonic, code := impl.AreHarmonic(bad)
		wantCode(t, fmt.Sprint("AreHarmonic", bad), code, impl.ErrInvalid, !harmonic)
	}
}

func TestHarmonicTurns(t *testing.T) {
	cases := []struct {
		gaps []int64
		want string
		code int64
	}{
		{[]int64{8, 2, 4}, "bcbabcb.", impl.ErrNone}, {[]int64{1}, "a", impl.ErrNone}, {[]int64{3}, "a..", impl.ErrNone}, {[]int64{2, 2}, "ab", impl.ErrNone}, {[]int64{4, 4}, "ab..", impl.ErrNone}, {[]int64{4, 2, 4}, "babc", impl.ErrNone}, {[]int64{2, 4}, "aba.", impl.ErrNone},
		{[]int64{40}, "a" + strings.Repeat(".", 39), impl.ErrNone}, {[]int64{40, 1}, "", impl.ErrNotFound}, {times(8, 8), "abcdefgh", impl.ErrNone}, {times(8, 7), "", impl.ErrNotFound}, {times(8, 40), "abcdefgh" + strings.Repeat(".", 32), impl.ErrNone},
		{[]int64{3, 6, 3}, "acbac.", impl.ErrNone}, {[]int64{6, 3, 3, 6}, "bcabcd", impl.ErrNone}, {[]int64{9, 3}, "ba.b..b..", impl.ErrNone},
		// Densities of just 1 and just above.
		{[]int64{20, 2, 4, 5}, "", impl.ErrState}, {[]int64{2, 4, 8, 8}, "abacabad", impl.ErrNone}, {[]int64{2, 4, 8, 16, 16}, "abacabadabacabae", impl.ErrNone}, {[]int64{2, 4, 8, 8, 32}, "", impl.ErrNotFound}, {[]int64{2, 4, 8, 16, 32, 32}, "abacabadabacabaeabacabadabacabaf", impl.ErrNone}, {[]int64{2, 4, 8, 16, 32, 32, 32}, "", impl.ErrNotFound},
		{[]int64{1, 40}, "", impl.ErrNotFound}, {[]int64{1, 1}, "", impl.ErrNotFound}, {[]int64{2, 2, 4}, "", impl.ErrNotFound}, {[]int64{3, 3, 3, 39}, "", impl.ErrNotFound}, {times(8, 1), "", impl.ErrNotFound},
		{[]int64{2, 3}, "", impl.ErrState}, {[]int64{1, 2, 3}, "", impl.ErrState}, {[]int64{1, 1, 2, 3}, "", impl.ErrState}, {[]int64{40, 39}, "", impl.ErrState}, // also where the density is greater than 1
	}
	for _, c := range cases {
		turns, code := impl.HarmonicTurns(tasksOf(c.gaps...))
		wantTurns3(t, fmt.Sprint("HarmonicTurns", c.gaps), turns, slots(c.want), code, c.code)
	}
	found := map[int64]int{}
	for _, gaps := range gapLists3() {
		want, wantErr := harmonicTurns3(gaps)
		turns, code := impl.HarmonicTurns(tasksOf(gaps...))
		wantTurns3(t, fmt.Sprint("HarmonicTurns", gaps), turns, want, code, wantErr)
		found[code]++
	}
	if len(found) != 3 || found[impl.ErrNone] < 300 || found[impl.ErrNotFound] < 300 || found[impl.ErrState] < 300 {
		t.Errorf("the codes of HarmonicTurns come so often: %v", found)
	}
}

func TestTurnsByPowers(t *testing.T) {
	cases := []struct {
		gaps []int64
		want string
		code int64
	}{
		{[]int64{3, 5, 7}, "abac", impl.ErrNone}, {[]int64{1}, "a", impl.ErrNone}, {[]int64{40}, "a" + strings.Repeat(".", 31), impl.ErrNone}, {[]int64{7, 3}, "bab.", impl.ErrNone}, {[]int64{2, 3}, "ab", impl.ErrNone}, {times(8, 8), "abcdefgh", impl.ErrNone}, {times(8, 15), "abcdefgh", impl.ErrNone},
		{[]int64{5, 3, 5}, "babc", impl.ErrNone}, {[]int64{9, 15, 2, 5}, "cdcacdcb", impl.ErrNone}, // gaps that are equal only when lessened, in the order of their numbers
		{[]int64{3, 3, 3}, "", impl.ErrNotFound}, {[]int64{1, 40}, "", impl.ErrNotFound}, {times(8, 7), "", impl.ErrNotFound}, {[]int64{2, 3, 40}, "", impl.ErrNotFound}, {[]int64{2, 7, 7, 40}, "", impl.ErrNotFound}, {[]int64{2, 7, 15, 15}, "abacabad", impl.ErrNone},
	}
	for _, c := range cases {
		turns, code := impl.TurnsByPowers(tasksOf(c.gaps...))
		wantTurns3(t, fmt.Sprint("TurnsByPowers", c.gaps), turns, slots(c.want), code, c.code)
	}
	for _, gaps := range gapLists3() {
		want, wantErr := harmonicTurns3(lessen3(gaps, 1))
		turns, code := impl.TurnsByPowers(tasksOf(gaps...))
		wantTurns3(t, fmt.Sprint("TurnsByPowers", gaps), turns, want, code, wantErr)
	}
}

// byOne3 tries all numbers to which gaps can be lessened.
func byOne3(gaps []int64) ([]int64, int64, int64) {
	for x := int64(1); x <= slices.Min(gaps); x++ {
		if turns, code := harmonicTurns3(lessen3(gaps, x)); code == impl.ErrNone {
			return turns, x, code
		}
	}
	return nil, 0, impl.ErrNotFound
}

func TestTurnsByOne(t *testing.T) {
	cases := []struct {
		gaps []int64
		x    int64
		want string
	}{
		{[]int64{3, 3, 3}, 3, "abc"}, {[]int64{1}, 1, "a"}, {[]int64{40}, 1, "a" + strings.Repeat(".", 31)}, {[]int64{2, 3}, 1, "ab"}, {[]int64{3, 5, 7}, 1, "abac"}, {times(8, 8), 1, "abcdefgh"},
		{[]int64{3, 6, 6, 7}, 3, "abcad."}, {[]int64{7, 6, 3, 6}, 3, "cabcd."}, {[]int64{5, 5, 5, 5, 5}, 5, "abcde"}, {[]int64{7, 6, 6, 6, 6, 6}, 3, "abcdef"},
		{[]int64{5, 5, 10, 10, 11, 11, 13, 13}, 5, "abcdeabfgh"}, {[]int64{5, 5, 5, 10, 10, 11, 11}, 5, "abcdeabcfg"},
	}
	for _, c := range cases {
		turns, x, code := impl.TurnsByOne(tasksOf(c.gaps...))
		wantTurns3(t, fmt.Sprint("TurnsByOne", c.gaps), turns, slots(c.want), code, impl.ErrNone)
		if x != c.x {
			t.Errorf("TurnsByOne(%v) lessens to %d, not to %d", c.gaps, x, c.x)
		}
	}
	for _, gaps := range [][]int64{{2, 3, 20}, {1, 40}, {1, 1}, times(8, 7), times(8, 1), {39, 1}, {2, 2, 2}} {
		turns, x, code := impl.TurnsByOne(tasksOf(gaps...))
		wantCode(t, fmt.Sprint("TurnsByOne", gaps), code, impl.ErrNotFound, len(turns) == 0 && x == 0)
	}
	better := 0
	for _, gaps := range gapLists3() {
		want, wantX, wantErr := byOne3(gaps)
		turns, x, code := impl.TurnsByOne(tasksOf(gaps...))
		wantTurns3(t, fmt.Sprint("TurnsByOne", gaps), turns, want, code, wantErr)
		if x != wantX {
			t.Errorf("TurnsByOne(%v) lessens to %d, not to %d", gaps, x, wantX)
		}
		if x > 1 {
			better++
		}
	}
	if better < 30 {
		t.Errorf("only %d tasks are lessened to more than 1", better)
	}
}

func TestHarmonicTurnsErrors(t *testing.T) {
	for _, bad := range badTasks1() {
		turns, code := impl.HarmonicTurns(bad)
		wantCode(t, fmt.Sprint("HarmonicTurns", bad), code, impl.ErrInvalid, len(turns) == 0)
		turns, code = impl.TurnsByPowers(bad)
		wantCode(t, fmt.Sprint("TurnsByPowers", bad), code, impl.ErrInvalid, len(turns) == 0)
		turns, x, code := impl.TurnsByOne(bad)
		wantCode(t, fmt.Sprint("TurnsByOne", bad), code, impl.ErrInvalid, len(turns) == 0 && x == 0)
	}
}

func TestGapsServed(t *testing.T) {
	cases := []struct {
		turns []int64
		k     int64
		want  []int64
		code  int64
	}{
		{slots("aabca"), 3, []int64{3, 5, 5}, impl.ErrNone}, {slots("a"), 1, []int64{1}, impl.ErrNone}, {slots("aaa"), 1, []int64{1}, impl.ErrNone}, {slots("a.a.."), 1, []int64{3}, impl.ErrNone}, {slots("abac"), 3, []int64{2, 4, 4}, impl.ErrNone}, {slots("ba"), 2, []int64{2, 2}, impl.ErrNone},
		{slots("hgfedcba"), 8, times(8, 8), impl.ErrNone}, {slots("aa"), 2, nil, impl.ErrNotFound}, {slots("b"), 2, nil, impl.ErrNotFound}, {slots("ac"), 3, nil, impl.ErrNotFound}, {slots("."), 1, nil, impl.ErrNotFound}, {slots("abcdefg"), 8, nil, impl.ErrNotFound}, {times(120, -1), 8, nil, impl.ErrNotFound},
		// A wait of just MaxGap, and one more, within the turns and round the end.
		{append(times(39, -1), 0), 1, []int64{40}, impl.ErrNone}, {append(times(40, -1), 0), 1, nil, impl.ErrLimit}, {append(times(39, 1), 0), 2, []int64{40, 2}, impl.ErrNone}, {append(times(40, 1), 0), 2, nil, impl.ErrLimit}, {append(times(39, 0), 1), 2, []int64{2, 40}, impl.ErrNone}, {append(times(40, 0), 1), 2, nil, impl.ErrLimit},
		{slices.Repeat(append(times(39, -1), 0), 3), 1, []int64{40}, impl.ErrNone}, {slices.Concat(slots("aa"), times(39, -1), slots("a")), 1, []int64{40}, impl.ErrNone}, {slices.Concat(slots("aa"), times(40, -1), slots("a")), 1, nil, impl.ErrLimit}, {slices.Concat(times(20, -1), slots("aa"), times(19, -1)), 1, []int64{40}, impl.ErrNone}, {slices.Concat(times(20, -1), slots("aa"), times(20, -1)), 1, nil, impl.ErrLimit},
		// Who has no turn is told ahead of a gap that would be too great.
		{append(times(40, -1), 0), 2, nil, impl.ErrNotFound}, {append(times(119, -1), 0), 8, nil, impl.ErrNotFound}, {append(times(119, -1), 1), 2, nil, impl.ErrNotFound},
	}
	for _, c := range cases {
		tasks, code := impl.GapsServed(c.turns, c.k)
		wantTurns3(t, fmt.Sprint("GapsServed", c.turns, c.k), tasks.Gaps, c.want, code, c.code)
	}
}

func TestGapsServedErrors(t *testing.T) {
	for k := int64(1); k <= impl.MaxTasks; k++ {
		for _, bad := range badTurns1(k) {
			tasks, code := impl.GapsServed(bad, k)
			wantCode(t, fmt.Sprint("GapsServed", bad, k), code, impl.ErrRange, len(tasks.Gaps) == 0)
		}
	}
	for _, turns := range [][]int64{slots("a"), slots("."), slots("abcdefgh"), times(120, -1), append(times(40, -1), 0), nil} {
		for _, k := range append([]int64{-2, -1, 0, 9, 10, 256}, farNumbers...) {
			tasks, code := impl.GapsServed(turns, k)
			wantCode(t, fmt.Sprint("GapsServed", turns, k), code, impl.ErrRange, len(tasks.Gaps) == 0)
		}
	}
	for _, turns := range [][]int64{slots("ab"), slots("b"), slots("c.")} { // a task that is not told comes ahead of one without a turn
		tasks, code := impl.GapsServed(turns, 1)
		wantCode(t, fmt.Sprint("GapsServed", turns, 1), code, impl.ErrRange, len(tasks.Gaps) == 0)
	}
}

// TestGapsServedAreLeast looks at the guarantee: gaps served are the greatest waits, the turns serve
// them, and they do not serve a gap that is less.
func TestGapsServedAreLeast(t *testing.T) {
	served := 0
	check := func(turns []int64) {
		for k := int64(1); k <= impl.MaxTasks; k++ {
			tasks, code := impl.GapsServed(turns, k)
			want, wantErr := gapsServed3(turns, k)
			wantTurns3(t, fmt.Sprint("GapsServed", turns, k), tasks.Gaps, want, code, wantErr)
			if code != impl.ErrNone {
				continue
			}
			served++
			if yes, _ := impl.DoServe(tasks, turns); !yes {
				t.Fatalf("GapsServed(%v, %d) = %v, which the turns do not serve", turns, k, tasks)
			}
			for i := range want {
				want[i]--
				if yes, _ := impl.DoServe(tasksOf(want...), turns); yes {
					t.Fatalf("GapsServed(%v, %d) = %v, but the turns serve %v", turns, k, tasks, want)
				}
				want[i]++
			}
		}
	}
	shortTurns(6, 3, check)
	longTurns(check)
	if served < 500 {
		t.Errorf("only %d turns serve tasks", served)
	}
}

// gapsServed3 takes the greatest wait of each task.
func gapsServed3(turns []int64, k int64) ([]int64, int64) {
	var gaps []int64
	if slices.Max(turns) >= k {
		return nil, impl.ErrRange
	}
	for i := range k {
		gaps = append(gaps, slices.Max(append(waits1(turns, i), 0)))
	}
	if slices.Contains(gaps, 0) {
		return nil, impl.ErrNotFound
	}
	if slices.Max(gaps) > impl.MaxGap {
		return nil, impl.ErrLimit
	}
	return gaps, impl.ErrNone
}

func TestAskMore(t *testing.T) {
	cases := []struct {
		t, u []int64
		want bool
	}{
		{[]int64{5, 2, 9}, []int64{3, 5}, true}, {[]int64{5, 2}, []int64{3, 4}, false}, {[]int64{1}, []int64{1}, true}, {[]int64{40}, []int64{40}, true}, {[]int64{40}, []int64{39}, false}, {[]int64{39}, []int64{40}, true}, {[]int64{1}, []int64{1, 40}, false}, {[]int64{1, 40}, []int64{1}, true},
		{[]int64{40, 1}, []int64{1}, true}, {[]int64{5, 2}, []int64{2, 5}, true}, {[]int64{2, 5}, []int64{5, 2}, true}, {[]int64{2, 5}, []int64{1, 9}, false}, {[]int64{2, 2}, []int64{2, 1}, false}, {[]int64{4, 4, 4}, []int64{4, 4, 3}, false}, {[]int64{4, 4, 4}, []int64{3, 40, 40}, false}, {[]int64{9, 3}, []int64{9}, true}, {[]int64{9, 3}, []int64{2}, false},
		{times(8, 1), times(8, 40), true}, {times(8, 40), times(8, 40), true}, {times(7, 1), times(8, 40), false}, {times(8, 40), times(7, 39), false}, {times(8, 2), append(times(7, 2), 1), false}, {append(times(7, 9), 1), append(times(7, 9), 2), true},
	}
	for _, c := range cases {
		if more, code := impl.AskMore(tasksOf(c.t...), tasksOf(c.u...)); more != c.want || code != impl.ErrNone {
			t.Errorf("AskMore(%v, %v) = %v, %d", c.t, c.u, more, code)
		}
	}
	for _, bad := range badTasks1() {
		for _, other := range append(badTasks1(), tasksOf(1), tasksOf(40), tasksOf(times(8, 1)...)) {
			more, code := impl.AskMore(bad, other)
			wantCode(t, fmt.Sprint("AskMore", bad, other), code, impl.ErrInvalid, !more)
			more, code = impl.AskMore(other, bad)
			wantCode(t, fmt.Sprint("AskMore", other, bad), code, impl.ErrInvalid, !more)
		}
	}
}

// TestAskMoreServes looks at what the section says: turns for t serve u, with tasks renumbered. It
// takes the tasks of t that are at the places of those of u, and leaves the slots of others idle.
func TestAskMoreServes(t *testing.T) {
	numbers := rand.New(rand.NewSource(4))
	lists := gapLists3()
	more, served := 0, 0
	for range 20000 {
		a, b := lists[numbers.Intn(len(lists))], lists[numbers.Intn(len(lists))]
		yes, code := impl.AskMore(tasksOf(a...), tasksOf(b...))
		if yes != wantMore3(a, b) || code != impl.ErrNone {
			t.Fatalf("AskMore(%v, %v) = %v, %d", a, b, yes, code)
		}
		if !yes {
			continue
		}
		more++
		turns, _, code := impl.TurnsByOne(tasksOf(a...))
		if code != impl.ErrNone {
			continue
		}
		served++
		_, fromA, _ := impl.SortTasks(tasksOf(a...))
		_, fromB, _ := impl.SortTasks(tasksOf(b...))
		for slot, who := range turns {
			if at := slices.Index(fromA, who); at >= 0 && at < len(fromB) {
				turns[slot] = fromB[at]
			} else {
				turns[slot] = -1
			}
		}
		if yes, code := impl.DoServe(tasksOf(b...), turns); !yes || code != impl.ErrNone {
			t.Fatalf("%v asks for more than %v, but %v does not serve", a, b, turns)
		}
	}
	if more < 1000 || served < 300 {
		t.Errorf("only %d pairs of tasks ask for more, %d of them are served", more, served)
	}
}

func wantMore3(a, b []int64) bool {
	if len(a) < len(b) {
		return false
	}
	for place := range b {
		// The gap at a place: the least one that at least so many gaps do not exceed.
		if gapAt3(b, place) < gapAt3(a, place) {
			return false
		}
	}
	return true
}

func gapAt3(gaps []int64, place int) int64 {
	for gap := int64(1); ; gap++ {
		count := 0
		for _, other := range gaps {
			if other <= gap {
				count++
			}
		}
		if count > place {
			return gap
		}
	}
}

func TestLeastOfGaps(t *testing.T) {
	cases := []struct {
		gaps            []int64
		least, multiple int64
	}{
		{[]int64{4, 6, 10}, 4, 60}, {[]int64{1}, 1, 1}, {[]int64{40}, 40, 40}, {[]int64{40, 39}, 39, 1560}, {[]int64{2, 4, 8}, 2, 8}, {[]int64{8, 4, 2}, 2, 8}, {[]int64{6, 6}, 6, 6}, {[]int64{1, 40}, 1, 40}, {times(8, 1), 1, 1}, {times(8, 40), 40, 40}, {[]int64{6, 10, 15}, 6, 30},
		{[]int64{40, 39, 37, 31, 29, 23, 19, 17}, 17, 385492890120}, {[]int64{17, 19, 23, 29, 31, 37, 39, 40}, 17, 385492890120}, {[]int64{32, 27, 25, 7, 11, 13, 17, 19}, 7, 6983776800},
	}
	for _, c := range cases {
		if least, multiple, code := impl.LeastOfGaps(tasksOf(c.gaps...)); least != c.least || multiple != c.multiple || code != impl.ErrNone {
			t.Errorf("LeastOfGaps(%v) = %d, %d, %d", c.gaps, least, multiple, code)
		}
	}
	for _, gaps := range gapLists3() {
		least, multiple, code := impl.LeastOfGaps(tasksOf(gaps...))
		if wantLeast, wantMultiple := slices.Min(gaps), multiple3(gaps); least != wantLeast || multiple != wantMultiple || code != impl.ErrNone {
			t.Errorf("LeastOfGaps(%v) = %d, %d, %d, not %d, %d", gaps, least, multiple, code, wantLeast, wantMultiple)
		}
	}
	for _, bad := range badTasks1() {
		least, multiple, code := impl.LeastOfGaps(bad)
		wantCode(t, fmt.Sprint("LeastOfGaps", bad), code, impl.ErrInvalid, least == 0 && multiple == 0)
	}
}

// multiple3 puts a least common multiple together from the powers of primes that divide some gap.
func multiple3(gaps []int64) int64 {
	multiple := int64(1)
	for _, prime := range []int64{2, 3, 5, 7, 11, 13, 17, 19, 23, 29, 31, 37} {
		most := int64(1)
		for power := prime; power <= impl.MaxGap; power *= prime {
			for _, gap := range gaps {
				if gap%power == 0 {
					most = power
				}
			}
		}
		multiple *= most
	}
	return multiple
}

// TestPromise3: lessened gaps are at most the gaps, and harmonic turns serve their tasks.
func TestPromise3(t *testing.T) {
	lessened, served := 0, 0
	for _, gaps := range gapLists3() {
		for x := int64(1); x <= impl.MaxGap; x++ {
			less, code := impl.LessenGaps(tasksOf(gaps...), x)
			if code != impl.ErrNone {
				continue
			}
			lessened++
			for i, gap := range less.Gaps {
				if gap > gaps[i] || 2*gap <= gaps[i] {
					t.Errorf("LessenGaps(%v, %d) = %v", gaps, x, less.Gaps)
				}
			}
			if harmonic, code := impl.AreHarmonic(less); !harmonic || code != impl.ErrNone {
				t.Errorf("LessenGaps(%v, %d) = %v is not harmonic", gaps, x, less.Gaps)
			}
			turns, code := impl.HarmonicTurns(less)
			above, below, _ := impl.DensityOf(less)
			if (code == impl.ErrNone) != (above <= below) {
				t.Errorf("HarmonicTurns(%v) has the code %d, the density is %d/%d", less.Gaps, code, above, below)
			}
			served += checkPromise3(t, less.Gaps, turns, code) + checkPromise3(t, gaps, turns, code)
		}
		turns, code := impl.HarmonicTurns(tasksOf(gaps...))
		served += checkPromise3(t, gaps, turns, code)
		turns, code = impl.TurnsByPowers(tasksOf(gaps...))
		served += checkPromise3(t, gaps, turns, code)
		turns, x, code := impl.TurnsByOne(tasksOf(gaps...))
		served += checkPromise3(t, gaps, turns, code)
		if code == impl.ErrNone && (x < 1 || x > slices.Min(gaps)) {
			t.Errorf("TurnsByOne(%v) lessens to %d", gaps, x)
		}
	}
	if lessened < 1000 || served < 1000 {
		t.Errorf("only %d gaps are lessened, and %d turns looked at", lessened, served)
	}
}

// checkPromise3 looks whether turns that came with ErrNone serve, and returns 1 if so.
func checkPromise3(t *testing.T, gaps, turns []int64, code int64) int {
	t.Helper()
	if code != impl.ErrNone {
		return 0
	}
	if yes, also := impl.DoServe(tasksOf(gaps...), turns); !yes || also != impl.ErrNone || !serves2(gaps, turns) {
		t.Errorf("%v does not serve %v", turns, gaps)
		return 0
	}
	return 1
}

// TestPromise15: folded tasks are served by divided turns.
func TestPromise15(t *testing.T) {
	divided := 0
	for _, gaps := range gapLists3() {
		for j := 1; j < len(gaps); j++ {
			for i := range j {
				divided += checkPromise15(t, gaps, int64(i), int64(j))
			}
		}
	}
	if divided < 3000 {
		t.Errorf("only %d turns are divided", divided)
	}
}

// checkPromise15 folds two tasks, divides turns for the folded tasks among both, and looks whether
// they serve the tasks, of which j is behind all others then. It returns how many turns it divided.
func checkPromise15(t *testing.T, gaps []int64, i, j int64) int {
	t.Helper()
	folded, code := impl.FoldTasks(tasksOf(gaps...), i, j)
	if code != impl.ErrNone {
		return 0
	}
	p := make([]int64, len(gaps))
	for n := range p {
		p[n] = int64(n)
		if p[n] > j {
			p[n]--
		}
	}
	p[j] = int64(len(gaps)) - 1
	tasks, code := impl.RenumberTasks(tasksOf(gaps...), p)
	if code != impl.ErrNone {
		t.Fatalf("RenumberTasks(%v, %v) has the code %d", gaps, p, code)
	}
	byPowers, _ := impl.TurnsByPowers(folded)
	byOne, _, _ := impl.TurnsByOne(folded)
	var played []int64
	if count, _ := impl.CountStates(folded); count <= 200 {
		_, played, _ = impl.LeastPlay(folded)
	}
	done := 0
	for _, turns := range [][]int64{byPowers, byOne, played} {
		divided, code := impl.DivideTurns(turns, i, 2)
		if code != impl.ErrNone { // there are no such turns, or too many slots
			continue
		}
		done++
		if yes, code := impl.DoServe(tasks, divided); !yes || code != impl.ErrNone {
			t.Errorf("%v, folded to %v by %d and %d: %v serves, but divided it is %v", gaps, folded.Gaps, i, j, turns, divided)
		}
	}
	return done
}

// TestPromise15OfMore: a task whose gap is m times another one can be one of m among which the turns
// of this one are divided.
func TestPromise15OfMore(t *testing.T) {
	divided := 0
	longTurns(func(turns []int64) {
		waits, code := impl.GreatestWaits(turns)
		if code != impl.ErrNone {
			t.Fatalf("GreatestWaits(%v) has the code %d", turns, code)
		}
		for m := int64(2); m <= impl.MaxTasks; m++ {
			got, code := impl.DivideTurns(turns, 0, m)
			if code != impl.ErrNone {
				continue
			}
			divided++
			all, _ := impl.GreatestWaits(got)
			for i, wait := range all {
				if most := waits[0] * m; (i == 0 || i >= len(waits)) && (wait < m || wait > most) {
					t.Fatalf("%v divided among %d is %v: the task %d waits %d slots, not at most %d", turns, m, got, i, wait, most)
				} else if i > 0 && i < len(waits) && wait != waits[i] {
					t.Fatalf("%v divided among %d is %v: the task %d waits %d slots, not %d", turns, m, got, i, wait, waits[i])
				}
			}
		}
	})
	if divided < 200 {
		t.Errorf("only %d turns are divided", divided)
	}
}

// TestMemory3 writes over results, and looks whether arguments, and what stands behind their ends,
// keep what they had.
func TestMemory3(t *testing.T) {
	gapsWere, lessWere, turnsWere := []int64{9, 4, 8}, []int64{8, 4, 8}, slots("abac.abc")
	gaps, less, turns := withSpare(gapsWere), withSpare(lessWere), withSpare(turnsWere)
	evenWere := slots("abab")
	even := withSpare(evenWere)
	list := func(y []int64, code int64) []int64 {
		if code != impl.ErrNone || len(y) == 0 {
			t.Errorf("a result is missing: %v, %d", y, code)
		}
		return y
	}
	gapsOf := func(y impl.Tasks, code int64) []int64 { return list(y.Gaps, code) }
	calls := map[string]func() []int64{
		"FoldTasks first":  func() []int64 { return gapsOf(impl.FoldTasks(tasksOf(gaps...), 0, 1)) },
		"FoldTasks last":   func() []int64 { return gapsOf(impl.FoldTasks(tasksOf(gaps...), 1, 2)) },
		"FoldTasks others": func() []int64 { return gapsOf(impl.FoldTasks(tasksOf(gaps...), 0, 2)) },
		"DivideTurns":      func() []int64 { return list(impl.DivideTurns(turns, 0, 2)) },
		"DivideTurns once": func() []int64 { return list(impl.DivideTurns(even, 0, 2)) },
		"LessenGaps":       func() []int64 { return gapsOf(impl.LessenGaps(tasksOf(gaps...), 4)) },
		"LessenGaps same":  func() []int64 { return gapsOf(impl.LessenGaps(tasksOf(less...), 4)) },
		"HarmonicTurns":    func() []int64 { return list(impl.HarmonicTurns(tasksOf(less...))) },
		"TurnsByPowers":    func() []int64 { return list(impl.TurnsByPowers(tasksOf(gaps...))) },
		"TurnsByOne":       func() []int64 { y, _, code := impl.TurnsByOne(tasksOf(gaps...)); return list(y, code) },
		"GapsServed":       func() []int64 { return gapsOf(impl.GapsServed(turns, 3)) },
		"the others": func() []int64 {
			impl.AreHarmonic(tasksOf(gaps...))
			impl.AskMore(tasksOf(gaps...), tasksOf(less...))
			least, multiple, _ := impl.LeastOfGaps(tasksOf(gaps...))
			return []int64{least, multiple}
		},
	}
	for name, call := range calls {
		first := call()
		kept := slices.Clone(first)
		overwrite(first)
		if !spareIsWhole(gaps, gapsWere) || !spareIsWhole(less, lessWere) || !spareIsWhole(turns, turnsWere) || !spareIsWhole(even, evenWere) {
			t.Fatalf("%s shares memory with an argument, or changes it", name)
		}
		if !slices.Equal(call(), kept) {
			t.Errorf("%s returns something else on its second call", name)
		}
	}
}
