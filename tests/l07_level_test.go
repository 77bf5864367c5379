package tests

import (
	"fmt"
	"math/big"
	"math/bits"
	"math/rand"
	"runtime"
	"slices"
	"strings"
	"sync"
	"testing"

	"loop.example/g01404/impl"
)

// count7 returns how many of the first n slots the task i has.
func count7(turns []int64, n int, i int64) int64 {
	count := int64(0)
	for slot := range n {
		if turns[slot] == i {
			count++
		}
	}
	return count
}

// difference7 returns the difference of a task.
func difference7(turns []int64, n int, i int64) int64 {
	return int64(len(turns))*count7(turns, n, i) - int64(n)*count7(turns, len(turns), i)
}

// each7 calls f with all differences.
func each7(turns []int64, f func(difference int64)) {
	for n := range len(turns) + 1 {
		for i := int64(0); i <= slices.Max(turns); i++ {
			f(difference7(turns, n, i))
		}
	}
}

// greatest7 returns the greatest difference, without its sign.
func greatest7(turns []int64) int64 {
	greatest := int64(0)
	each7(turns, func(difference int64) { greatest = max(greatest, difference, -difference) })
	return greatest
}

// squares7 returns the sum of the squares of all differences.
func squares7(turns []int64) int64 {
	sum := int64(0)
	each7(turns, func(difference int64) { sum += difference * difference })
	return sum
}

// shares7 returns the shares that turns without idle slots have.
func shares7(turns []int64) []int64 {
	var shares []int64
	for i := int64(0); i <= slices.Max(turns); i++ {
		shares = append(shares, count7(turns, len(turns), i))
	}
	return shares
}

// code7 returns the code for turns, without other arguments, by the numbers that they have.
func code7(turns []int64) int64 {
	if len(turns) < 1 || len(turns) > 120 || slices.Min(turns) < -1 || slices.Max(turns) > 7 {
		return impl.ErrRange
	}
	if len(turns) > 60 || slices.Min(turns) < 0 || slices.Min(shares7(turns)) == 0 {
		return impl.ErrState
	}
	return impl.ErrNone
}

// greedy7 gives each slot to the first one of all tasks, ordered by their numbers.
func greedy7(shares []int64) []int64 {
	var turns []int64
	units := sum6(shares)
	for n := range units {
		var order [][2]int64
		for i, share := range shares {
			order = append(order, [2]int64{units*count7(turns, len(turns), int64(i)) - (n+1)*share, int64(i)})
		}
		slices.SortFunc(order, func(a, b [2]int64) int { return slices.Compare(a[:], b[:]) })
		turns = append(turns, order[0][1])
	}
	return turns
}

// first7 and last7 return the slots from which on, and up to which, the turn j of a task with a share may
// stand, of the slots 0 to units - 1.
func first7(units, share, j, b int64) int64 {
	n := int64(1)
	for units*j-n*share > b {
		n++
	}
	return n - 1
}

func last7(units, share, j, b int64) int64 {
	for n := int64(1); n <= units; n++ {
		if n*share-units*(j-1) > b {
			return n - 1
		}
	}
	return units - 1
}

// deadline7 returns the deadline turns, and whether there are any.
func deadline7(shares []int64, b int64) ([]int64, bool) {
	var turns []int64
	kept, units := true, sum6(shares)
	for slot := range units {
		who, until := int64(-1), int64(1000)
		for i, share := range shares {
			j := count7(turns, len(turns), int64(i)) + 1
			if j > share || first7(units, share, j, b) > slot {
				continue
			}
			if last := last7(units, share, j, b); last < until {
				who, until = int64(i), last
			}
		}
		if who < 0 {
			return nil, false
		}
		kept = kept && slot <= until
		turns = append(turns, who)
	}
	return turns, kept
}

// least7 returns the least greatest difference of all turns with shares, found by the numbers of turns that
// tasks can have in the first slots.
func least7(shares []int64) int64 {
	units := sum6(shares)
	known := map[[8]int64]int64{}
	var from func(had [8]int64) int64
	from = func(had [8]int64) int64 {
		if least, done := known[had]; done {
			return least
		}
		n, here, least := sum6(had[:]), int64(0), int64(1<<40)
		for i, share := range shares {
			difference := units*had[i] - n*share
			here = max(here, difference, -difference)
		}
		for i, share := range shares {
			if had[i] < share {
				had[i]++
				least = min(least, from(had))
				had[i]--
			}
		}
		if n == units {
			least = 0
		}
		known[had] = max(here, least)
		return known[had]
	}
	return from([8]int64{})
}

// balanced7 looks at all parts of the slots, round the end, too.
func balanced7(turns []int64) bool {
	for i := int64(0); i <= slices.Max(turns); i++ {
		for width := range len(turns) + 1 {
			var counts []int
			for start := range turns {
				count := 0
				for slot := range width {
					if who1(turns, start+slot) == i {
						count++
					}
				}
				counts = append(counts, count)
			}
			if slices.Max(counts) > slices.Min(counts)+1 {
				return false
			}
		}
	}
	return true
}

// exchanged7 returns turns with two slots exchanged.
func exchanged7(turns []int64, n, m int) []int64 {
	other := slices.Clone(turns)
	other[n], other[m] = turns[m], turns[n]
	return other
}

// best7 goes through all exchanges, in lexicographic order. It also tells the squares of the best one, and
// how many exchanges have as few.
func best7(turns []int64) (n, m int64, squares int64, same int, found bool) {
	squares = squares7(turns)
	for a := range turns {
		for b := a + 1; b < len(turns); b++ {
			if turns[a] == turns[b] {
				continue
			}
			other := squares7(exchanged7(turns, a, b))
			if other < squares {
				n, m, squares, same, found = int64(a), int64(b), other, 1, true
			} else if other == squares {
				same++
			}
		}
	}
	return n, m, squares, same, found
}

// smooth7 exchanges slots as long as there is a best exchange, and counts the exchanges.
func smooth7(turns []int64) ([]int64, int) {
	for steps := 0; ; steps++ {
		n, m, _, _, found := best7(turns)
		if !found {
			return turns, steps
		}
		turns = exchanged7(turns, int(n), int(m))
	}
}

// edgeShares7 are shares at the limits.
var edgeShares7 = [][]int64{
	{1}, {60}, {59}, {1, 59}, {59, 1}, {30, 30}, {29, 31}, {20, 20, 20}, {1, 1, 58}, {58, 1, 1}, times(8, 1), times(8, 7), {7, 7, 7, 7, 8, 8, 8, 8}, append(times(7, 1), 53), append([]int64{53}, times(7, 1)...), {1, 2, 4, 8, 16, 29}, {25, 13, 8, 6, 4, 2, 1, 1}, {17, 19, 23}, {4, 4, 1, 1}, {6, 6, 1}, {3, 3, 3, 1, 1},
}

// eachShares7 calls f with shares: all with a sum of at most 9, those at the limits, and others of up to
// MaxTasks tasks, the same ones on each run.
func eachShares7(f func(shares []int64)) {
	var extend func(shares []int64, left int64)
	extend = func(shares []int64, left int64) {
		if len(shares) > 0 {
			f(slices.Clone(shares))
		}
		for share := int64(1); share <= left && len(shares) < 8; share++ {
			extend(append(slices.Clone(shares), share), left-share)
		}
	}
	extend(nil, 9)
	for _, shares := range edgeShares7 {
		f(shares)
	}
	numbers := rand.New(rand.NewSource(7))
	for range 400 {
		k := 1 + numbers.Intn(8)
		shares := times(k, 1)
		for range numbers.Intn(61 - k) {
			shares[numbers.Intn(1+numbers.Intn(k))]++
		}
		f(shares)
	}
}

// fewTurns7 calls f with all turns of at most seven slots with three tasks, and of at most five slots with
// five tasks, that have shares.
func fewTurns7(f func(turns []int64)) {
	shortTurns(7, 3, func(turns []int64) {
		if code7(turns) == impl.ErrNone {
			f(turns)
		}
	})
	shortTurns(5, 5, func(turns []int64) {
		if code7(turns) == impl.ErrNone && slices.Max(turns) > 2 {
			f(turns)
		}
	})
}

// moreTurns7 calls f with turns of up to MaxUnits slots that have shares, the same ones on each run: greedy
// ones, those that give a task all of its slots at once, and others.
func moreTurns7(most int, f func(turns []int64)) {
	numbers := rand.New(rand.NewSource(77))
	eachShares7(func(shares []int64) {
		if sum6(shares) > int64(most) {
			return
		}
		var turns []int64
		for i, share := range shares {
			turns = append(turns, times(int(share), int64(i))...)
		}
		f(slices.Clone(turns))
		f(greedy7(shares))
		numbers.Shuffle(len(turns), func(a, b int) { turns[a], turns[b] = turns[b], turns[a] })
		f(turns)
	})
}

// eachTurns7 calls f with few turns and more ones.
func eachTurns7(f func(turns []int64)) {
	fewTurns7(f)
	moreTurns7(60, f)
}

// noShares7 are turns that have no shares: with idle slots, with tasks that have no turn, and with more than
// MaxUnits slots.
func noShares7() [][]int64 {
	list := [][]int64{slots("."), slots("b"), slots("h"), slots("a."), slots(".a"), slots("a.b"), slots("ac"), slots("ca"), slots("bcb"), slots("abd"), slots("aac"), slots("abcdefh"), slots("hgfedcb"), slots("bcdefgh"), slots("a.c"), times(60, -1), times(120, -1), times(60, 1), times(61, 0), times(120, 0), times(61, 7), append(times(59, 0), -1), append(times(59, 0), 2)}
	return append(list, slots(strings.Repeat("ab", 30)+"a"), slots(strings.Repeat("abcdefgh", 15)), slots(strings.Repeat("ab", 30)+"."))
}

func TestConstants7(t *testing.T) {
	if impl.MaxUnits != 60 {
		t.Errorf("MaxUnits = %d", impl.MaxUnits)
	}
}

// TestAgainstNoShares looks at the model itself: the turns of noShares7 are turns, but have no shares.
func TestAgainstNoShares(t *testing.T) {
	for _, turns := range noShares7() {
		if code7(turns) != impl.ErrState {
			t.Errorf("%v have shares", turns)
		}
	}
}

func TestDifferenceAt(t *testing.T) {
	cases := []struct {
		text       string
		n, i, want int64
	}{
		{"aab", 2, 0, 2}, {"aab", 2, 1, -2}, {"aab", 1, 0, 1}, {"aab", 1, 1, -1}, {"aab", 0, 0, 0}, {"aab", 0, 1, 0}, {"aab", 3, 0, 0}, {"aab", 3, 1, 0}, {"baa", 1, 0, -2}, {"baa", 1, 1, 2}, {"baa", 2, 0, -1},
		{"a", 0, 0, 0}, {"a", 1, 0, 0}, {"aaaa", 3, 0, 0}, {"abcdefgh", 1, 0, 7}, {"abcdefgh", 1, 7, -1}, {"abcdefgh", 7, 7, -7}, {"abcdefgh", 7, 0, 1}, {"abcdefgh", 8, 7, 0}, {"aaabbb", 3, 0, 9}, {"aaabbb", 3, 1, -9}, {"aaabbb", 4, 0, 6},
		{strings.Repeat("a", 30) + strings.Repeat("b", 30), 30, 0, 900}, {strings.Repeat("a", 30) + strings.Repeat("b", 30), 30, 1, -900}, {strings.Repeat("a", 30) + strings.Repeat("b", 30), 60, 1, 0}, {strings.Repeat("a", 30) + strings.Repeat("b", 30), 59, 1, -30}, {strings.Repeat("a", 59) + "b", 59, 1, -59}, {strings.Repeat("a", 59) + "b", 59, 0, 59},
	}
	for _, c := range cases {
		if d, code := impl.DifferenceAt(slots(c.text), c.n, c.i); d != c.want || code != impl.ErrNone {
			t.Errorf("DifferenceAt(%s, %d, %d) = %d, %d, not %d", c.text, c.n, c.i, d, code, c.want)
		}
	}
	signs := map[int]int{}
	eachTurns7(func(turns []int64) {
		for n := range len(turns) + 1 {
			sum := int64(0)
			for i := int64(0); i <= slices.Max(turns); i++ {
				d, code := impl.DifferenceAt(turns, int64(n), i)
				if d != difference7(turns, n, i) || code != impl.ErrNone {
					t.Fatalf("DifferenceAt(%v, %d, %d) = %d, %d", turns, n, i, d, code)
				}
				if (n == 0 || n == len(turns)) && d != 0 {
					t.Errorf("DifferenceAt(%v, %d, %d) = %d at an end", turns, n, i, d)
				}
				sum += d
				signs[big.NewInt(d).Sign()]++
			}
			if sum != 0 {
				t.Errorf("the differences of %v at %d are %d together", turns, n, sum)
			}
		}
	})
	if signs[-1] < 1000 || signs[0] < 1000 || signs[1] < 1000 {
		t.Errorf("only these signs: %v", signs)
	}
}

// TestDifferenceAtRanges has numbers at the ends of what they may be, and one beyond them.
func TestDifferenceAtRanges(t *testing.T) {
	moreTurns7(60, func(turns []int64) {
		size, tasks := int64(len(turns)), slices.Max(turns)+1
		for _, n := range []int64{-1, 0, size, size + 1} {
			for _, i := range []int64{-1, 0, tasks - 1, tasks} {
				want := int64(impl.ErrRange)
				if n >= 0 && n <= size && i >= 0 && i < tasks {
					want = impl.ErrNone
				}
				d, code := impl.DifferenceAt(turns, n, i)
				wantCode(t, fmt.Sprint("DifferenceAt", turns, n, i), code, want, d == 0)
			}
		}
	})
}

func TestGreatestDifference(t *testing.T) {
	cases := map[string]int64{
		"a": 0, "aaaa": 0, "ab": 1, "ba": 1, "aab": 2, "aba": 1, "baa": 2, "aabb": 4, "abab": 2, "abba": 2, "aaabbb": 9, "aaab": 3, "abbb": 3, "abcdefgh": 7, "hgfedcba": 7, "aaaaaaab": 7, "baaaaaaa": 7, "aabbccdd": 12, "abcabcaab": 6,
		strings.Repeat("a", 60): 0, strings.Repeat("a", 30) + strings.Repeat("b", 30): 900, strings.Repeat("ab", 30): 30, strings.Repeat("a", 59) + "b": 59, "b" + strings.Repeat("a", 59): 59,
	}
	for text, want := range cases {
		if d, code := impl.GreatestDifference(slots(text)); d != want || code != impl.ErrNone {
			t.Errorf("GreatestDifference(%s) = %d, %d, not %d", text, d, code, want)
		}
	}
	above, below := 0, 0
	eachTurns7(func(turns []int64) {
		want := greatest7(turns)
		if d, code := impl.GreatestDifference(turns); d != want || code != impl.ErrNone {
			t.Errorf("GreatestDifference(%v) = %d, %d, not %d", turns, d, code, want)
		}
		has, hasBelow := false, false
		each7(turns, func(difference int64) {
			has = has || difference == want
			hasBelow = hasBelow || difference == -want
		})
		if has && !hasBelow {
			above++
		}
		if hasBelow && !has {
			below++
		}
	})
	if above < 100 || below < 100 {
		t.Errorf("only %d greatest differences are just above 0, %d just below it", above, below)
	}
}

func TestSquaresOf(t *testing.T) {
	cases := map[string]int64{
		"a": 0, "aaaa": 0, "ab": 2, "ba": 2, "aab": 10, "aba": 4, "baa": 10, "aabb": 48, "abab": 16, "abba": 16, "aabba": 50, "abcabc": 96, "aaabbb": 342, "aaaabbbb": 1408, "abcdefgh": 672, "aabbccdd": 1088, "aaaaaaab": 280,
		strings.Repeat("a", 60): 0, strings.Repeat("ab", 30): 54000, strings.Repeat("a", 30) + strings.Repeat("b", 30): 32418000,
	}
	for text, want := range cases {
		if sum, code := impl.SquaresOf(slots(text)); sum != want || code != impl.ErrNone {
			t.Errorf("SquaresOf(%s) = %d, %d, not %d", text, sum, code, want)
		}
	}
	eachTurns7(func(turns []int64) {
		if sum, code := impl.SquaresOf(turns); sum != squares7(turns) || code != impl.ErrNone {
			t.Errorf("SquaresOf(%v) = %d, %d, not %d", turns, sum, code, squares7(turns))
		}
	})
}

func TestGreedyTurns(t *testing.T) {
	cases := []struct {
		shares []int64
		text   string
	}{
		{[]int64{1}, "a"}, {[]int64{4}, "aaaa"}, {[]int64{60}, strings.Repeat("a", 60)}, {[]int64{2, 1}, "aba"}, {[]int64{1, 2}, "bab"}, {[]int64{3, 2}, "ababa"}, {[]int64{7, 2, 1}, "aabaacaaba"}, {[]int64{8, 4, 2, 1}, "abacabadabacaba"}, {[]int64{1, 2, 4, 8}, "dcdbdcdadcdbdcd"}, {[]int64{5, 3, 2}, "abcaabacba"},
		// Several tasks with the same least number, at first and later.
		{[]int64{1, 1}, "ab"}, {[]int64{2, 2}, "abab"}, {[]int64{1, 1, 2}, "cabc"}, {[]int64{1, 2, 1}, "bacb"}, {[]int64{2, 1, 1}, "abca"}, {[]int64{1, 2, 3}, "cbacbc"}, {[]int64{3, 2, 1}, "abacba"}, {[]int64{8, 1, 1}, "aaabaacaaa"}, {times(8, 1), "abcdefgh"}, {[]int64{30, 30}, strings.Repeat("ab", 30)}, {[]int64{20, 20, 20}, strings.Repeat("abc", 20)},
		// Shares that are MaxUnits together.
		{[]int64{1, 59}, strings.Repeat("b", 29) + "a" + strings.Repeat("b", 30)}, {[]int64{59, 1}, strings.Repeat("a", 30) + "b" + strings.Repeat("a", 29)}, {[]int64{7, 7, 7, 7, 8, 8, 8, 8}, "efgh" + strings.Repeat("abcdefgh", 7)}, {append([]int64{53}, times(7, 1)...), "aaaaaaabaaaaaaacaaaaaadaaaaaaaeaaaaaafaaaaaaagaaaaaahaaaaaaa"},
	}
	for _, c := range cases {
		turns, code := impl.GreedyTurns(c.shares)
		wantTurns3(t, fmt.Sprint("GreedyTurns", c.shares), turns, slots(c.text), code, impl.ErrNone)
	}
	eachShares7(func(shares []int64) {
		turns, code := impl.GreedyTurns(shares)
		wantTurns3(t, fmt.Sprint("GreedyTurns", shares), turns, greedy7(shares), code, impl.ErrNone)
	})
}

func TestDeadlineTurns(t *testing.T) {
	cases := []struct {
		shares []int64
		b      int64
		text   string // empty if there are none
	}{
		{[]int64{1}, 0, "a"}, {[]int64{1}, 60, "a"}, {[]int64{5}, 0, "aaaaa"}, {[]int64{60}, 0, strings.Repeat("a", 60)}, {[]int64{60}, 60, strings.Repeat("a", 60)}, {[]int64{2, 1}, 1, "aba"}, {[]int64{2, 1}, 0, ""}, {[]int64{1, 1}, 0, ""}, {[]int64{1, 1}, 1, "ab"}, {[]int64{3, 2}, 2, "ababa"}, {[]int64{3, 2}, 3, "abaab"},
		// Just there for b, and not for b - 1.
		{[]int64{1, 3}, 1, ""}, {[]int64{1, 3}, 2, "babb"}, {[]int64{7, 2, 1}, 5, ""}, {[]int64{7, 2, 1}, 6, "aabaacaaba"}, {times(8, 1), 6, ""}, {times(8, 1), 7, "abcdefgh"}, {[]int64{30, 30}, 29, ""}, {[]int64{30, 30}, 30, strings.Repeat("ab", 30)}, {[]int64{1, 59}, 29, ""}, {[]int64{1, 59}, 30, strings.Repeat("b", 29) + "a" + strings.Repeat("b", 30)}, {append([]int64{53}, times(7, 1)...), 51, ""}, {append([]int64{53}, times(7, 1)...), 52, "aaaaaaabaaaaaaaacaaaaaaadaaaaaaaaeaaaaaaafaaaaaaaagahaaaaaaa"},
		// Next turns with the same last slot, the least task of several.
		{[]int64{1, 1, 2}, 1, ""}, {[]int64{1, 1, 2}, 2, "cabc"}, {[]int64{1, 1, 2}, 4, "cabc"}, {[]int64{2, 2}, 2, "abab"}, {[]int64{2, 2}, 4, "abab"}, {times(8, 1), 8, "abcdefgh"}, {times(8, 7), 49, strings.Repeat("abcdefgh", 7)},
		// Turns that may stand anywhere: all of them, and some.
		{[]int64{1, 1}, 60, "ab"}, {[]int64{2, 1}, 3, "aab"}, {[]int64{1, 2}, 3, "bab"}, {[]int64{1, 2}, 6, "abb"}, {[]int64{1, 1, 2}, 60, "abcc"}, {[]int64{1, 3}, 3, "bbab"}, {[]int64{1, 3}, 8, "babb"}, {[]int64{1, 3}, 12, "abbb"}, {times(8, 1), 60, "abcdefgh"}, {[]int64{3, 3, 1}, 60, "aaabbbc"}, {[]int64{1, 59}, 58, strings.Repeat("b", 57) + "abb"}, {[]int64{1, 59}, 60, strings.Repeat("b", 58) + "ab"},
		// One that may stand anywhere, and one that may not stand behind the last slot of all.
		{[]int64{1, 2}, 4, "abb"}, {[]int64{2, 1}, 4, "aab"}, {[]int64{2, 2}, 6, "aabb"}, {[]int64{1, 3}, 9, "abbb"}, {[]int64{2, 7}, 60, "aabbbbbbb"},
	}
	for _, c := range cases {
		want := int64(impl.ErrNone)
		if c.text == "" {
			want = impl.ErrNotFound
		}
		turns, code := impl.DeadlineTurns(c.shares, c.b)
		wantTurns3(t, fmt.Sprint("DeadlineTurns", c.shares, c.b), turns, slots(c.text), code, want)
	}
}

// TestDeadlineTurnsAgainstModel: turns with a greatest difference of at most b are there just if the deadline
// turns for b are there, and then these are such turns.
func TestDeadlineTurnsAgainstModel(t *testing.T) {
	codes := map[int64]int{}
	eachShares7(func(shares []int64) {
		units, least := sum6(shares), int64(0)
		small := units <= 12
		if small {
			least = least7(shares)
		}
		for b := int64(0); b <= 60; b++ {
			if !small && b%7 != units%7 && b > 0 && b < 58 {
				continue
			}
			want, found := deadline7(shares, b)
			wantErr := int64(impl.ErrNone)
			if !found {
				want, wantErr = nil, impl.ErrNotFound
			}
			turns, code := impl.DeadlineTurns(shares, b)
			wantTurns3(t, fmt.Sprint("DeadlineTurns", shares, b), turns, want, code, wantErr)
			codes[code]++
			if found && greatest7(turns) > b {
				t.Errorf("DeadlineTurns(%v, %d) = %v have the greatest difference %d", shares, b, turns, greatest7(turns))
			}
			if small && (code == impl.ErrNone) != (least <= b) {
				t.Errorf("DeadlineTurns(%v, %d): code %d, but the least greatest difference of all turns is %d", shares, b, code, least)
			}
		}
	})
	if codes[impl.ErrNone] < 2000 || codes[impl.ErrNotFound] < 2000 {
		t.Errorf("only these codes: %v", codes)
	}
}

// TestLastSlots looks for the cases of deadline turns that are told apart: next turns with the same last
// slot, of which the least task is first, and next turns that may stand anywhere beside others.
func TestLastSlots(t *testing.T) {
	same, anywhere, beside := 0, 0, 0
	eachShares7(func(shares []int64) {
		units := sum6(shares)
		for _, b := range []int64{units / 2, units - 1, units, 60 - units/2, 60} {
			turns, code := impl.DeadlineTurns(shares, b)
			if code != impl.ErrNone {
				continue
			}
			for slot, who := range turns {
				var lasts []int64
				for i, share := range shares {
					j := count7(turns, slot, int64(i)) + 1
					if j > share || first7(units, share, j, b) > int64(slot) {
						continue
					}
					last := last7(units, share, j, b)
					if int64(i) == who && len(lasts) > 0 && slices.Min(lasts) <= last {
						t.Errorf("DeadlineTurns(%v, %d) = %v: the slot %d is that of a lesser task", shares, b, turns, slot)
					}
					if units*(share-j+1) <= b {
						anywhere++
					}
					lasts = append(lasts, last)
				}
				slices.Sort(lasts)
				if len(lasts) > 1 && lasts[0] == lasts[1] {
					same++
				}
				if len(lasts) > 1 && lasts[0] < units-1 && lasts[len(lasts)-1] == units-1 {
					beside++
				}
			}
		}
	})
	if same < 1000 || anywhere < 1000 || beside < 1000 {
		t.Errorf("only %d slots with the same last ones, %d turns that may stand anywhere, %d of several kinds", same, anywhere, beside)
	}
}

func TestLeastDifference(t *testing.T) {
	cases := []struct {
		shares []int64
		text   string
		b      int64
	}{
		{[]int64{1}, "a", 0}, {[]int64{3}, "aaa", 0}, {[]int64{60}, strings.Repeat("a", 60), 0}, {[]int64{1, 1}, "ab", 1}, {[]int64{2, 1}, "aba", 1}, {[]int64{1, 2}, "bab", 1}, {[]int64{1, 1, 2}, "cabc", 2}, {[]int64{2, 2}, "abab", 2}, {[]int64{3, 2}, "ababa", 2}, {[]int64{1, 2, 3}, "cbacbc", 3}, {[]int64{7, 2, 1}, "aabaacaaba", 6}, {times(8, 1), "abcdefgh", 7}, {[]int64{8, 4, 2, 1}, "abacabadabacaba", 7},
		{[]int64{30, 30}, strings.Repeat("ab", 30), 30}, {[]int64{1, 59}, strings.Repeat("b", 29) + "a" + strings.Repeat("b", 30), 30}, {append([]int64{53}, times(7, 1)...), "aaaaaaabaaaaaaaacaaaaaaadaaaaaaaaeaaaaaaafaaaaaaaagahaaaaaaa", 52}, {[]int64{7, 7, 7, 7, 8, 8, 8, 8}, "efgh" + strings.Repeat("abcdefgh", 7), 52},
		// Less than that of greedy turns.
		{[]int64{4, 4, 1, 1}, "abcababdab", 7}, {[]int64{3, 3, 3, 1, 1}, "abcdabceabc", 8}, {[]int64{6, 6, 1}, "abababcababab", 9},
	}
	for _, c := range cases {
		turns, b, code := impl.LeastDifference(c.shares)
		wantTurns3(t, fmt.Sprint("LeastDifference", c.shares), turns, slots(c.text), code, impl.ErrNone)
		if b != c.b {
			t.Errorf("LeastDifference(%v): %d, not %d", c.shares, b, c.b)
		}
	}
	looked := 0
	eachShares7(func(shares []int64) {
		turns, b, code := impl.LeastDifference(shares)
		if code != impl.ErrNone || b < 0 || b > 59 {
			t.Fatalf("LeastDifference(%v): %d, %d", shares, b, code)
		}
		want, found := deadline7(shares, b)
		if !found || !slices.Equal(turns, want) || greatest7(turns) != b {
			t.Errorf("LeastDifference(%v) = %v, %d, not %v, %v", shares, turns, b, want, found)
		}
		if _, found := deadline7(shares, b-1); found && b > 0 {
			t.Errorf("LeastDifference(%v) = %d, but there are deadline turns for less", shares, b)
		}
		states := int64(1)
		for _, share := range shares {
			states *= share + 1
		}
		if states <= 3000 {
			looked++
			if least := least7(shares); least != b {
				t.Errorf("LeastDifference(%v) = %d, but the least greatest difference of all turns is %d", shares, b, least)
			}
		}
	})
	if looked < 500 {
		t.Errorf("only %d least differences were looked at", looked)
	}
}

func TestDoubledTurns(t *testing.T) {
	for k, text := range []string{"", "a", "aba", "abacaba", "abacabadabacaba", "abacabadabacabaeabacabadabacaba"} {
		want := int64(impl.ErrNone)
		if k == 0 {
			want = impl.ErrRange
		}
		turns, code := impl.DoubledTurns(int64(k))
		wantTurns3(t, fmt.Sprint("DoubledTurns", k), turns, slots(text), code, want)
		for slot, who := range turns {
			if who != int64(bits.TrailingZeros(uint(slot+1))) {
				t.Errorf("DoubledTurns(%d) = %v: the slot %d", k, turns, slot)
			}
		}
		if balanced, code := impl.AreBalanced(turns); k > 0 && (!balanced || code != impl.ErrNone) {
			t.Errorf("DoubledTurns(%d) = %v are not balanced, %d", k, turns, code)
		}
	}
	for _, k := range append([]int64{0, -1, -5, 6, 7, 8, 9, 63, 64, 65, 256 + 1, 1<<16 + 1}, farNumbers...) {
		turns, code := impl.DoubledTurns(k)
		wantCode(t, fmt.Sprint("DoubledTurns", k), code, impl.ErrRange, len(turns) == 0)
	}
}

func TestAreBalanced(t *testing.T) {
	cases := map[string]bool{
		"a": true, "aaaa": true, "ab": true, "ba": true, "aab": true, "baa": true, "aaab": true, "aaaaaaab": true, "abab": true, "ababa": true, "abac": true, "abaca": true, "abcabc": true, "abcdefgh": true, "hgfedcba": true, "abacaba": true, "aabab": true, "aabaabab": true,
		"aabb": false, "aabc": false, "aabba": false, "abcc": false, "abaabb": false, "aabbcc": false, "abacab": false, "aaabab": false, "abaabaabababa": false, "abaabaaababab": false, "abaababaabab": true,
		// Only round the end there are slots that differ by more.
		"abba": false, "baab": false, "abca": false, "abcba": false, "ababba": false, "abababba": false,
		// Only more slots differ by more.
		"aabaabababab": false, "abcabcacb": false,
		strings.Repeat("a", 60): true, strings.Repeat("ab", 30): true, strings.Repeat("abcdef", 10): true, strings.Repeat("a", 59) + "b": true, strings.Repeat("ab", 29) + "ba": false, strings.Repeat("abc", 19) + "acb": false, strings.Repeat("a", 58) + "bb": false,
	}
	for text, want := range cases {
		if balanced7(slots(text)) != want {
			t.Errorf("the model takes %s for others", text)
		}
		if yes, code := impl.AreBalanced(slots(text)); yes != want || code != impl.ErrNone {
			t.Errorf("AreBalanced(%s) = %v, %d", text, yes, code)
		}
	}
	answers, roundTheEnd := map[bool]int{}, 0
	fewTurns7(func(turns []int64) {
		want := balanced7(turns)
		if yes, code := impl.AreBalanced(turns); yes != want || code != impl.ErrNone {
			t.Errorf("AreBalanced(%v) = %v, %d", turns, yes, code)
		}
		answers[want]++
		if !want && linear7(turns) {
			roundTheEnd++
		}
	})
	moreTurns7(60, func(turns []int64) {
		want := balanced7(turns)
		if yes, code := impl.AreBalanced(turns); yes != want || code != impl.ErrNone {
			t.Errorf("AreBalanced(%v) = %v, %d", turns, yes, code)
		}
		answers[want]++
	})
	if answers[true] < 100 || answers[false] < 1000 || roundTheEnd < 50 {
		t.Errorf("only these answers: %v, %d for slots round the end", answers, roundTheEnd)
	}
}

// linear7 reports whether turns are balanced but for slots round the end.
func linear7(turns []int64) bool {
	for i := int64(0); i <= slices.Max(turns); i++ {
		for width := 1; width <= len(turns); width++ {
			var counts []int64
			for start := range len(turns) - width + 1 {
				counts = append(counts, count7(turns[start:], width, i))
			}
			if slices.Max(counts) > slices.Min(counts)+1 {
				return false
			}
		}
	}
	return true
}

func TestSpreadsOf(t *testing.T) {
	cases := []struct {
		text string
		want [][]int64
	}{
		{"a", [][]int64{{1, 1}}}, {"aaa", [][]int64{{1, 1}}}, {"ab", [][]int64{{2, 2}, {2, 2}}}, {"aabca", [][]int64{{1, 3}, {5, 5}, {5, 5}}}, {"aab", [][]int64{{1, 2}, {3, 3}}}, {"baab", [][]int64{{1, 3}, {1, 3}}}, {"abacaba", [][]int64{{1, 2}, {3, 4}, {7, 7}}}, {"cabba", [][]int64{{2, 3}, {1, 4}, {5, 5}}},
		{"abcdefgh", [][]int64{{8, 8}, {8, 8}, {8, 8}, {8, 8}, {8, 8}, {8, 8}, {8, 8}, {8, 8}}}, {strings.Repeat("a", 59) + "b", [][]int64{{1, 2}, {60, 60}}}, {strings.Repeat("a", 30) + strings.Repeat("b", 30), [][]int64{{1, 31}, {1, 31}}}, {"b" + strings.Repeat("a", 58) + "b", [][]int64{{1, 3}, {1, 59}}},
	}
	for _, c := range cases {
		if spreads, code := impl.SpreadsOf(slots(c.text)); !slices.EqualFunc(spreads, c.want, slices.Equal) || code != impl.ErrNone {
			t.Errorf("SpreadsOf(%s) = %v, %d, not %v", c.text, spreads, code, c.want)
		}
	}
	eachTurns7(func(turns []int64) {
		var want [][]int64
		for i := int64(0); i <= slices.Max(turns); i++ {
			waits := waits1(turns, i)
			want = append(want, []int64{slices.Min(waits), slices.Max(waits)})
		}
		if spreads, code := impl.SpreadsOf(turns); !slices.EqualFunc(spreads, want, slices.Equal) || code != impl.ErrNone {
			t.Errorf("SpreadsOf(%v) = %v, %d, not %v", turns, spreads, code, want)
		}
	})
}

func TestExchangeSlots(t *testing.T) {
	cases := []struct {
		text string
		n, m int64
		want string
	}{
		{"aab", 0, 2, "baa"}, {"aab", 2, 0, "baa"}, {"aab", 0, 1, "aab"}, {"aab", 1, 1, "aab"}, {"aab", 2, 2, "aab"}, {"a", 0, 0, "a"}, {"abcd", 1, 3, "adcb"}, {"abcd", 3, 1, "adcb"}, {"abcdefgh", 0, 7, "hbcdefga"},
		// Turns that have no shares.
		{".", 0, 0, "."}, {"a.", 0, 1, ".a"}, {"a.c", 2, 1, "ac."}, {"h", 0, 0, "h"}, {"bd.", 0, 1, "db."}, {strings.Repeat("a", 60) + "b", 60, 0, "b" + strings.Repeat("a", 60)}, {"c" + strings.Repeat(".", 119), 0, 119, strings.Repeat(".", 119) + "c"},
	}
	for _, c := range cases {
		turns, code := impl.ExchangeSlots(slots(c.text), c.n, c.m)
		wantTurns3(t, fmt.Sprint("ExchangeSlots of ", c.text, c.n, c.m), turns, slots(c.want), code, impl.ErrNone)
	}
	check := func(turns []int64, n, m int) {
		exchanged, code := impl.ExchangeSlots(turns, int64(n), int64(m))
		wantTurns3(t, fmt.Sprint("ExchangeSlots", turns, n, m), exchanged, exchanged7(turns, n, m), code, impl.ErrNone)
	}
	shortTurns(5, 3, func(turns []int64) {
		for n := range turns {
			for m := range turns {
				check(turns, n, m)
			}
		}
	})
	numbers := rand.New(rand.NewSource(71))
	longTurns(func(turns []int64) {
		last := len(turns) - 1
		check(turns, 0, last)
		check(turns, last, 0)
		check(turns, last, last)
		check(turns, numbers.Intn(len(turns)), numbers.Intn(len(turns)))
		for _, n := range []int64{-1, int64(len(turns))} {
			for _, m := range []int64{-1, 0, int64(last), int64(len(turns))} {
				a, code := impl.ExchangeSlots(turns, n, m)
				wantCode(t, fmt.Sprint("ExchangeSlots", turns, n, m), code, impl.ErrRange, len(a) == 0)
				a, code = impl.ExchangeSlots(turns, m, n)
				wantCode(t, fmt.Sprint("ExchangeSlots", turns, m, n), code, impl.ErrRange, len(a) == 0)
			}
		}
	})
}

func TestBestExchange(t *testing.T) {
	cases := []struct {
		text string
		n, m int64
		code int64
	}{
		{"aab", 1, 2, 0}, {"baa", 0, 1, 0}, {"aaab", 1, 3, 0}, {"abbb", 0, 1, 0}, {"abac", 2, 3, 0}, {"aabc", 1, 3, 0}, {"aabba", 1, 2, 0}, {"abaabb", 2, 4, 0}, {"abcabcaab", 5, 6, 0}, {"aaaaaaab", 3, 7, 0},
		// Several exchanges with the same least squares.
		{"aabb", 0, 2, 0}, {"bbaa", 0, 2, 0}, {"aaabbb", 0, 4, 0}, {"aabbcc", 0, 4, 0}, {"aaaabbbb", 0, 6, 0}, {"aabbaabb", 0, 2, 0}, {"aaabbbccc", 0, 7, 0}, {"aabbccdd", 0, 6, 0}, {strings.Repeat("a", 30) + strings.Repeat("b", 30), 0, 58, 0},
		// Turns that no exchange makes less.
		{"a", 0, 0, impl.ErrNotFound}, {"aa", 0, 0, impl.ErrNotFound}, {"ab", 0, 0, impl.ErrNotFound}, {"ba", 0, 0, impl.ErrNotFound}, {"aba", 0, 0, impl.ErrNotFound}, {"abab", 0, 0, impl.ErrNotFound}, {"abba", 0, 0, impl.ErrNotFound}, {"abcabc", 0, 0, impl.ErrNotFound}, {"abccba", 0, 0, impl.ErrNotFound}, {"acb", 0, 0, impl.ErrNotFound}, {"abcdefgh", 0, 0, impl.ErrNotFound}, {strings.Repeat("a", 60), 0, 0, impl.ErrNotFound}, {strings.Repeat("ab", 30), 0, 0, impl.ErrNotFound},
	}
	for _, c := range cases {
		if n, m, code := impl.BestExchange(slots(c.text)); n != c.n || m != c.m || code != c.code {
			t.Errorf("BestExchange(%s) = %d, %d, %d, not %d, %d, %d", c.text, n, m, code, c.n, c.m, c.code)
		}
	}
	codes, several := map[int64]int{}, 0
	check := func(turns []int64) {
		wantN, wantM, _, same, found := best7(turns)
		want := int64(impl.ErrNone)
		if !found {
			want = impl.ErrNotFound
		}
		if n, m, code := impl.BestExchange(turns); n != wantN || m != wantM || code != want {
			t.Errorf("BestExchange(%v) = %d, %d, %d, not %d, %d, %d", turns, n, m, code, wantN, wantM, want)
		}
		codes[want]++
		if found && same > 1 {
			several++
		}
	}
	fewTurns7(check)
	moreTurns7(30, check)
	if codes[impl.ErrNone] < 1000 || codes[impl.ErrNotFound] < 500 || several < 200 {
		t.Errorf("only these codes: %v, and %d with several best exchanges", codes, several)
	}
}

func TestSmoothTurns(t *testing.T) {
	cases := map[string]string{
		"a": "a", "aa": "aa", "ab": "ab", "ba": "ba", "aba": "aba", "abba": "abba", "abab": "abab", "abccba": "abccba", "acb": "acb", "hgfedcba": "hgfedcba", "aab": "aba", "baa": "aba", "aabb": "baab", "bbaa": "abba", "aabba": "ababa", "aaab": "abaa", "abac": "abca", "aaaaaaab": "aaabaaaa",
		// By several exchanges.
		"aaaabbbb": "babaabab", "aabbccdd": "dacbbcad", "aabbaabb": "baabbaab", "aaabbbccc": "cbaacbbac", "abcabcaab": "abcabacba",
		strings.Repeat("a", 30) + strings.Repeat("b", 30): strings.Repeat("ba", 15) + strings.Repeat("ab", 15), strings.Repeat("a", 60): strings.Repeat("a", 60),
	}
	for text, want := range cases {
		turns, code := impl.SmoothTurns(slots(text))
		wantTurns3(t, "SmoothTurns of "+text, turns, slots(want), code, impl.ErrNone)
	}
	exchanges := map[int]int{}
	check := func(turns []int64) {
		want, steps := smooth7(turns)
		smooth, code := impl.SmoothTurns(turns)
		wantTurns3(t, fmt.Sprint("SmoothTurns", turns), smooth, want, code, impl.ErrNone)
		exchanges[min(steps, 3)]++
	}
	fewTurns7(check)
	moreTurns7(20, check)
	if exchanges[0] < 500 || exchanges[1] < 500 || exchanges[2] < 50 || exchanges[3] < 50 {
		t.Errorf("only these numbers of exchanges: %v", exchanges)
	}
}

// TestSmoothTurnsStepByStep: smooth turns are what comes of best exchanges, also for many slots. Each of
// them makes the squares less, and none is left.
func TestSmoothTurnsStepByStep(t *testing.T) {
	most := 0
	moreTurns7(60, func(turns []int64) {
		smooth, code := impl.SmoothTurns(turns)
		if code != impl.ErrNone {
			t.Fatalf("SmoothTurns(%v): code %d", turns, code)
		}
		squares, steps := squares7(turns), 0
		for {
			n, m, code := impl.BestExchange(turns)
			if code != impl.ErrNone {
				break
			}
			turns, _ = impl.ExchangeSlots(turns, n, m)
			if n >= m || squares7(turns) >= squares {
				t.Fatalf("the exchange of %d and %d gives %v, with the squares %d", n, m, turns, squares)
			}
			squares = squares7(turns)
			steps++
		}
		if !slices.Equal(smooth, turns) {
			t.Errorf("SmoothTurns = %v, but best exchanges lead to %v", smooth, turns)
		}
		most = max(most, steps)
	})
	if most < 15 {
		t.Errorf("at most %d exchanges", most)
	}
}

// TestPromise7: greedy turns and deadline turns have their shares, and smooth turns have no more squares.
func TestPromise7(t *testing.T) {
	eachShares7(func(shares []int64) {
		greedy, code := impl.GreedyTurns(shares)
		checkShares7(t, "GreedyTurns", shares, greedy, code)
		for _, b := range []int64{sum6(shares) / 2, sum6(shares) - 1, 60} {
			if turns, code := impl.DeadlineTurns(shares, b); code != impl.ErrNotFound {
				checkShares7(t, "DeadlineTurns", shares, turns, code)
			}
		}
		level, b, code := impl.LeastDifference(shares)
		checkShares7(t, "LeastDifference", shares, level, code)
		// The guarantee of the chapter: least differences are not greater than those of greedy turns.
		ofGreedy, _ := impl.GreatestDifference(greedy)
		ofLevel, _ := impl.GreatestDifference(level)
		if b > ofGreedy || b != ofLevel {
			t.Errorf("LeastDifference(%v) = %d, but greedy turns have %d, and its turns %d", shares, b, ofGreedy, ofLevel)
		}
	})
	less, same := 0, 0
	eachTurns7(func(turns []int64) {
		smooth, code := impl.SmoothTurns(turns)
		checkShares7(t, "SmoothTurns", shares7(turns), smooth, code)
		before, a := impl.SquaresOf(turns)
		behind, b := impl.SquaresOf(smooth)
		if behind > before || a != impl.ErrNone || b != impl.ErrNone {
			t.Errorf("SmoothTurns(%v) = %v have the squares %d, not %d", turns, smooth, behind, before)
		}
		if behind < before {
			less++
		} else {
			same++
		}
		_, _, code = impl.BestExchange(smooth)
		wantCode(t, fmt.Sprint("BestExchange of smooth turns ", smooth), code, impl.ErrNotFound, true)
	})
	if less < 1000 || same < 500 {
		t.Errorf("only %d turns with less squares, %d with the same", less, same)
	}
}

// checkShares7 looks at turns with shares, also by the functions of chapter 1.
func checkShares7(t *testing.T, call string, shares, turns []int64, code int64) {
	t.Helper()
	if code != impl.ErrNone || code7(turns) != impl.ErrNone || !slices.Equal(shares7(turns), shares) {
		t.Fatalf("%s for %v = %v, %d", call, shares, turns, code)
	}
	have, none, code := impl.SharesOf(tasksOf(times(len(shares), 40)...), turns)
	if !slices.Equal(have, shares) || none != 0 || code != impl.ErrNone {
		t.Errorf("%s for %v = %v with the shares %v, %d idle slots, %d", call, shares, turns, have, none, code)
	}
}

// call7 runs a function of the chapter on turns with two numbers, and reports whether all other results
// are zero values.
type call7 struct {
	name string
	run  func(turns []int64, n, m int64) (bool, int64)
}

// calls7 returns the functions that take turns.
func calls7() []call7 {
	return []call7{
		{"GreatestDifference", func(turns []int64, n, m int64) (bool, int64) {
			a, code := impl.GreatestDifference(turns)
			return a == 0, code
		}},
		{"SquaresOf", func(turns []int64, n, m int64) (bool, int64) {
			a, code := impl.SquaresOf(turns)
			return a == 0, code
		}},
		{"AreBalanced", func(turns []int64, n, m int64) (bool, int64) {
			a, code := impl.AreBalanced(turns)
			return !a, code
		}},
		{"SpreadsOf", func(turns []int64, n, m int64) (bool, int64) {
			a, code := impl.SpreadsOf(turns)
			return len(a) == 0, code
		}},
		{"BestExchange", func(turns []int64, n, m int64) (bool, int64) {
			a, b, code := impl.BestExchange(turns)
			return a == 0 && b == 0, code
		}},
		{"SmoothTurns", func(turns []int64, n, m int64) (bool, int64) {
			a, code := impl.SmoothTurns(turns)
			return len(a) == 0, code
		}},
		{"DifferenceAt", func(turns []int64, n, m int64) (bool, int64) {
			a, code := impl.DifferenceAt(turns, n, m)
			return a == 0, code
		}},
		{"ExchangeSlots", func(turns []int64, n, m int64) (bool, int64) {
			a, code := impl.ExchangeSlots(turns, n, m)
			return len(a) == 0, code
		}},
	}
}

func TestErrorsOfTurns7(t *testing.T) {
	bad := badTurns1(8)
	// Also such ones that have idle slots, lack a task, or have too many slots for shares, all of which comes
	// behind it.
	bad = append(bad, append(slots("a."), 8), append(slots("ac"), -2), append(times(60, 0), 8), append(times(119, -1), 8), times(121, 1), append([]int64{-2}, times(61, 3)...))
	for _, c := range calls7() {
		for _, turns := range bad {
			for _, n := range append([]int64{0, 1, -1, 200}, farNumbers...) {
				zero, code := c.run(turns, n, 0)
				wantCode(t, fmt.Sprint(c.name, turns, n), code, impl.ErrRange, zero)
			}
		}
		for _, turns := range noShares7() {
			want := int64(impl.ErrState)
			if c.name == "ExchangeSlots" {
				want = impl.ErrNone
			} else if c.name == "DifferenceAt" && slices.Max(turns) < 0 {
				want = impl.ErrRange // no task has a turn
			}
			zero, code := c.run(turns, 0, 0)
			wantCode(t, fmt.Sprint(c.name, turns), code, want, zero)
		}
		shortTurns(4, 3, func(turns []int64) {
			want := code7(turns)
			if c.name == "ExchangeSlots" || c.name == "DifferenceAt" {
				return
			}
			if zero, code := c.run(turns, 0, 0); code != impl.ErrNotFound || want != impl.ErrNone || c.name != "BestExchange" {
				wantCode(t, fmt.Sprint(c.name, turns), code, want, zero)
			}
		})
	}
}

// TestErrorsOfNumbers7 has numbers that are not as told: they come ahead of turns that have no shares.
func TestErrorsOfNumbers7(t *testing.T) {
	for _, turns := range append(noShares7(), slots("a"), slots("ab"), slots("aba"), slots("abcdefgh"), slots(strings.Repeat("abc", 20))) {
		size, tasks := int64(len(turns)), slices.Max(turns)+1
		far := append([]int64{-1, -2, size + 1, 121, 256, 1 << 16}, farNumbers...)
		for _, bad := range far {
			for _, i := range []int64{0, tasks - 1, -1, tasks} {
				d, code := impl.DifferenceAt(turns, bad, i)
				wantCode(t, fmt.Sprint("DifferenceAt", turns, bad, i), code, impl.ErrRange, d == 0)
			}
			for _, m := range []int64{0, size - 1, bad, size} {
				a, code := impl.ExchangeSlots(turns, bad, m)
				wantCode(t, fmt.Sprint("ExchangeSlots", turns, bad, m), code, impl.ErrRange, len(a) == 0)
				a, code = impl.ExchangeSlots(turns, m, bad)
				wantCode(t, fmt.Sprint("ExchangeSlots", turns, m, bad), code, impl.ErrRange, len(a) == 0)
			}
		}
		for _, bad := range append([]int64{-1, -2, tasks, 8, 9, 256, 1 << 16}, farNumbers...) {
			for _, n := range []int64{0, 1, size, size + 1} {
				d, code := impl.DifferenceAt(turns, n, bad)
				wantCode(t, fmt.Sprint("DifferenceAt", turns, n, bad), code, impl.ErrRange, d == 0)
			}
		}
		for _, n := range []int64{0, 1, size} {
			for i := range tasks {
				d, code := impl.DifferenceAt(turns, n, i)
				wantCode(t, fmt.Sprint("DifferenceAt", turns, n, i), code, code7(turns), d == 0)
			}
		}
	}
}

// badShares7 are lists that are no shares.
func badShares7() [][]int64 {
	bad := [][]int64{nil, {}, times(9, 1), times(60, 1), times(61, 1), times(1000, 1), {30, 31}, {31, 30}, {1, 60}, {60, 1}, {60, 60}, {1, 1, 59}, append(times(7, 1), 54), {7, 7, 7, 8, 8, 8, 8, 8}, times(8, 8), times(8, 60), times(9, 60), {1, 2, 0, 3}, {59, 2, -1}, {61, -1}, {60, 0}, {0, 60}}
	for _, share := range append([]int64{0, -1, -2, -60, 61, 62, 256 + 1, 1<<16 + 1}, farNumbers...) {
		bad = append(bad, []int64{share}, []int64{share, 1}, []int64{1, share}, []int64{2, share, 3}, append(times(7, 4), share), []int64{share, share}, times(8, share), []int64{share, -share}, []int64{1 - share, share})
	}
	return bad
}

func TestErrorsOfShares7(t *testing.T) {
	for _, bad := range badShares7() {
		turns, code := impl.GreedyTurns(bad)
		wantCode(t, fmt.Sprint("GreedyTurns", bad), code, impl.ErrRange, len(turns) == 0)
		turns, b, code := impl.LeastDifference(bad)
		wantCode(t, fmt.Sprint("LeastDifference", bad), code, impl.ErrRange, len(turns) == 0 && b == 0)
		for _, b := range append([]int64{0, 1, 60, -1, 61}, farNumbers...) {
			turns, code = impl.DeadlineTurns(bad, b)
			wantCode(t, fmt.Sprint("DeadlineTurns", bad, b), code, impl.ErrRange, len(turns) == 0)
		}
	}
	for _, shares := range edgeShares7 {
		for _, b := range append([]int64{-1, -2, -60, 61, 62, 256 + 60, 1<<16 + 60}, farNumbers...) {
			turns, code := impl.DeadlineTurns(shares, b)
			wantCode(t, fmt.Sprint("DeadlineTurns", shares, b), code, impl.ErrRange, len(turns) == 0)
		}
		_, least, _ := impl.LeastDifference(shares)
		for _, b := range []int64{0, 60} {
			want := int64(impl.ErrNone)
			if b < least {
				want = impl.ErrNotFound
			}
			turns, code := impl.DeadlineTurns(shares, b)
			wantCode(t, fmt.Sprint("DeadlineTurns", shares, b), code, want, len(turns) == 0)
		}
	}
}

// TestLimits7 has turns of just MaxUnits and MaxTurns slots, and one more.
func TestLimits7(t *testing.T) {
	for _, c := range calls7() {
		for size, want := range map[int]int64{1: impl.ErrNone, 59: impl.ErrNone, 60: impl.ErrNone, 61: impl.ErrState, 62: impl.ErrState, 119: impl.ErrState, 120: impl.ErrState, 121: impl.ErrRange, 122: impl.ErrRange} {
			for k := 1; k <= min(size, 8); k++ {
				var turns []int64
				for slot := range size {
					turns = append(turns, min(int64(slot), int64(k)-1))
				}
				last := int64(size) - 1
				if c.name == "DifferenceAt" {
					last = int64(k) - 1
				}
				zero, code := c.run(turns, int64(size)-1, last)
				if c.name == "ExchangeSlots" && want == impl.ErrState {
					wantCode(t, fmt.Sprint(c.name, size, k), code, impl.ErrNone, zero)
				} else if c.name != "BestExchange" || want != impl.ErrNone || code != impl.ErrNotFound {
					wantCode(t, fmt.Sprint(c.name, size, k), code, want, zero)
				}
			}
		}
	}
}

// TestMemory7 writes over results, and looks whether arguments, and what stands behind their ends, keep what
// they had.
func TestMemory7(t *testing.T) {
	turnsWere, sharesWere := slots("aabbcabba"), []int64{4, 4, 1, 1}
	turns, shares := withSpare(turnsWere), withSpare(sharesWere)
	smoothWere := slots("abcab")
	smooth := withSpare(smoothWere)
	calls := map[string]func() []int64{
		"GreedyTurns":             func() []int64 { y, _ := impl.GreedyTurns(shares); return y },
		"DeadlineTurns":           func() []int64 { y, _ := impl.DeadlineTurns(shares, 20); return y },
		"LeastDifference":         func() []int64 { y, b, _ := impl.LeastDifference(shares); return append(y, b) },
		"DoubledTurns":            func() []int64 { y, _ := impl.DoubledTurns(3); return y },
		"DoubledTurns of one":     func() []int64 { y, _ := impl.DoubledTurns(1); return append(y, 7, 7, 7) },
		"ExchangeSlots":           func() []int64 { y, _ := impl.ExchangeSlots(turns, 1, 4); return y },
		"ExchangeSlots of none":   func() []int64 { y, _ := impl.ExchangeSlots(turns, 3, 3); return y },
		"SmoothTurns":             func() []int64 { y, _ := impl.SmoothTurns(turns); return y },
		"SmoothTurns of the same": func() []int64 { y, _ := impl.SmoothTurns(smooth); return y },
		"the others": func() []int64 {
			d, _ := impl.DifferenceAt(turns, 3, 1)
			greatest, _ := impl.GreatestDifference(turns)
			squares, _ := impl.SquaresOf(turns)
			balanced, _ := impl.AreBalanced(turns)
			n, m, _ := impl.BestExchange(turns)
			if balanced {
				n = -1
			}
			return []int64{d, greatest, squares, n, m}
		},
	}
	for name, call := range calls {
		first := call()
		kept := slices.Clone(first)
		overwrite(first)
		if len(kept) < 3 || !spareIsWhole(turns, turnsWere) || !spareIsWhole(shares, sharesWere) || !spareIsWhole(smooth, smoothWere) {
			t.Fatalf("%s shares memory with an argument, or changes it", name)
		}
		if !slices.Equal(call(), kept) {
			t.Errorf("%s returns something else on its second call", name)
		}
	}
}

// TestMemoryOfSpreads writes over one spread after the other: no two of them share memory.
func TestMemoryOfSpreads(t *testing.T) {
	turnsWere := slots("aabcabbacda")
	turns := withSpare(turnsWere)
	want, _ := impl.SpreadsOf(turns)
	spreads, _ := impl.SpreadsOf(turns)
	for at := range spreads {
		overwrite(spreads[at])
		for other := at + 1; other < len(spreads); other++ {
			if !slices.Equal(spreads[other], want[other]) {
				t.Errorf("the spreads of %d and %d share memory", at, other)
			}
		}
	}
	if len(want) != 4 || !spareIsWhole(turns, turnsWere) {
		t.Errorf("SpreadsOf shares memory with an argument, or changes it: %v", want)
	}
}

// TestNothingGoesOn7: behind the calls nothing goes on, also if many of them are made at once.
func TestNothingGoesOn7(t *testing.T) {
	before := runtime.NumGoroutine()
	turns := slots(strings.Repeat("aabbcd", 10))
	want := squares7(turns)
	var all sync.WaitGroup
	for range 50 {
		all.Go(func() {
			for range 20 {
				if sum, code := impl.SquaresOf(turns); sum != want || code != impl.ErrNone {
					t.Errorf("SquaresOf(%v) = %d, %d, not %d", turns, sum, code, want)
				}
				impl.GreatestDifference(turns)
				impl.DifferenceAt(turns, 7, 2)
				impl.BestExchange(turns)
			}
		})
	}
	all.Wait()
	// Those that have closed their channel may take a moment till they are gone.
	for tries := 0; tries < 1000000 && runtime.NumGoroutine() > before; tries++ {
		runtime.Gosched()
	}
	if behind := runtime.NumGoroutine(); behind > before {
		t.Errorf("%d goroutines behind the calls, %d before them", behind, before)
	}
}
