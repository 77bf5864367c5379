package tests

import (
	"fmt"
	"math/big"
	"math/rand"
	"slices"
	"strings"
	"testing"

	"loop.example/g01404/impl"
)

// comes10 returns, for each slot at which one can come, how long one has to wait for the task i, by walking on
// slot by slot; nothing if it has no turn.
func comes10(turns []int64, i int64) []int64 {
	if !slices.Contains(turns, i) {
		return nil
	}
	var waits []int64
	for slot := range turns {
		wait := 0
		for who1(turns, slot+wait) != i {
			wait++
		}
		waits = append(waits, int64(wait))
	}
	return waits
}

// both10 returns the same for both of two tasks, by walking on till both have come.
func both10(turns []int64, i, j int64) []int64 {
	if !slices.Contains(turns, i) || !slices.Contains(turns, j) {
		return nil
	}
	var waits []int64
	for slot := range turns {
		hadI, hadJ, wait := false, false, int64(-1)
		for !hadI || !hadJ {
			wait++
			who := who1(turns, slot+int(wait))
			hadI, hadJ = hadI || who == i, hadJ || who == j
		}
		waits = append(waits, wait)
	}
	return waits
}

// mean10 returns the mean of numbers.
func mean10(numbers []int64) *big.Rat {
	return big.NewRat(sum6(numbers), int64(len(numbers)))
}

// weighted10 returns the mean wait by weights, and whether all tasks with weights have turns.
func weighted10(turns, weights []int64) (*big.Rat, bool) {
	sum := new(big.Rat)
	for i, weight := range weights {
		if weight == 0 {
			continue
		}
		waits := comes10(turns, int64(i))
		if waits == nil {
			return nil, false
		}
		sum.Add(sum, new(big.Rat).Mul(big.NewRat(weight, 1), mean10(waits)))
	}
	return sum.Mul(sum, big.NewRat(1, sum6(weights))), true
}

// wantMean10 fails the test if a call did not return this fraction, in lowest terms, and ErrNone.
func wantMean10(t *testing.T, call string, above, below, code int64, want *big.Rat) {
	t.Helper()
	// A big.Rat is in lowest terms, 0 as 0/1.
	if code != impl.ErrNone || big.NewInt(above).Cmp(want.Num()) != 0 || big.NewInt(below).Cmp(want.Denom()) != 0 {
		t.Fatalf("%s = %d/%d, %d, not %s", call, above, below, code, want)
	}
}

// one10 returns size slots, all of them with the number of others, but those that are told with the task i.
func one10(size int, others, i int64, at ...int) []int64 {
	turns := times(size, others)
	for _, slot := range at {
		turns[slot] = i
	}
	return turns
}

// edgeTurns10 are turns at the limits: of one slot and of MaxTurns, with one turn of a task at each end or in the
// middle, with all of them, and with equal and unequal waits.
func edgeTurns10() [][]int64 {
	list := [][]int64{slots("a"), slots("h"), times(120, 0), times(120, 7), slots(strings.Repeat("ab", 60)), slots(strings.Repeat("abcdefgh", 15)), slots("abcdefgh"), slots("hgfedcba"), slots("abacabadabacabae"), slots(strings.Repeat("a.", 60)), slots(strings.Repeat(".h", 60))}
	for _, others := range []int64{-1, 0, 6} {
		for _, size := range []int{2, 3, 119, 120} {
			list = append(list, one10(size, others, 7, 0), one10(size, others, 7, size-1), one10(size, others, 7, size/2), one10(size, others, 7, 0, size-1), one10(size, others, 7, 0, size/2))
		}
	}
	return list
}

// eachTurns10 calls f with all turns of at most five slots with three tasks, those at the limits, and turns of up to
// MaxTurns slots with up to MaxTasks tasks.
func eachTurns10(f func(turns []int64)) {
	shortTurns(5, 3, f)
	for _, turns := range edgeTurns10() {
		f(turns)
	}
	longTurns(f)
}

// eachWaits10 calls f with the same turns, each task that has a turn in them, and its waits.
func eachWaits10(f func(turns []int64, i int64, waits []int64)) {
	eachTurns10(func(turns []int64) {
		for i := range int64(8) {
			if waits := comes10(turns, i); waits != nil {
				f(turns, i, waits)
			}
		}
	})
}

// eachBoth10 calls f with the same turns, pairs of tasks that have turns in them, and the waits for both: all
// pairs where there are few slots, else one with each task, of itself, too.
func eachBoth10(f func(turns []int64, i, j int64, waits []int64)) {
	numbers := rand.New(rand.NewSource(10))
	eachTurns10(func(turns []int64) {
		for i := range int64(8) {
			other := numbers.Int63n(8)
			for j := range int64(8) {
				if len(turns) > 20 && j != other {
					continue
				}
				if waits := both10(turns, i, j); waits != nil {
					f(turns, i, j, waits)
				}
			}
		}
	})
}

func TestConstants10(t *testing.T) {
	if impl.MaxWeight != 100 {
		t.Errorf("MaxWeight = %d", impl.MaxWeight)
	}
}

func TestWaitFrom(t *testing.T) {
	cases := []struct {
		text          string
		i, slot, want int64
	}{
		{"a", 0, 0, 0}, {"ab", 0, 0, 0}, {"ab", 0, 1, 1}, {"ab", 1, 0, 1}, {"ab", 1, 1, 0}, {"aaaa", 0, 3, 0}, {"h", 7, 0, 0},
		{"abac", 1, 0, 1}, {"abac", 1, 1, 0}, {"abac", 1, 2, 3}, {"abac", 1, 3, 2}, {"abac", 2, 0, 3}, {"abac", 2, 3, 0}, {"abac", 0, 3, 1},
		{"a...", 0, 1, 3}, {"...a", 0, 0, 3}, {".a..", 0, 2, 3}, {".a..", 0, 0, 1}, {"aba.b", 0, 3, 2}, {"aba.b", 1, 2, 2}, {"aba.b", 1, 3, 1},
		{"h" + strings.Repeat("a", 119), 7, 1, 119}, {"h" + strings.Repeat("a", 119), 7, 119, 1}, {"h" + strings.Repeat("a", 119), 0, 0, 1}, {strings.Repeat(".", 119) + "h", 7, 0, 119}, {strings.Repeat(".", 119) + "h", 7, 119, 0},
	}
	for _, c := range cases {
		if wait, code := impl.WaitFrom(slots(c.text), c.i, c.slot); wait != c.want || code != impl.ErrNone {
			t.Errorf("WaitFrom(%s, %d, %d) = %d, %d, not %d", c.text, c.i, c.slot, wait, code, c.want)
		}
	}
	none, round := 0, 0
	eachWaits10(func(turns []int64, i int64, waits []int64) {
		for slot, want := range waits {
			if wait, code := impl.WaitFrom(turns, i, int64(slot)); wait != want || code != impl.ErrNone {
				t.Fatalf("WaitFrom(%v, %d, %d) = %d, %d, not %d", turns, i, slot, wait, code, want)
			}
			if want == 0 {
				none++
			}
			if slot+int(want) >= len(turns) {
				round++
			}
		}
	})
	if none < 10000 || round < 10000 {
		t.Errorf("only %d turns at the slot, %d waits round the end", none, round)
	}
}

func TestMeanWait(t *testing.T) {
	cases := []struct {
		text         string
		i            int64
		above, below int64
	}{
		{"ab", 0, 1, 2}, {"ab", 1, 1, 2}, {"a", 0, 0, 1}, {"h", 7, 0, 1}, {"aaaa", 0, 0, 1}, {strings.Repeat("c", 120), 2, 0, 1}, {"aab", 0, 1, 3}, {"aab", 1, 1, 1}, {"a...", 0, 3, 2}, {"...a", 0, 3, 2}, {"abac", 0, 1, 2}, {"abac", 1, 3, 2}, {"aba.b", 0, 4, 5},
		{"h" + strings.Repeat("a", 119), 7, 119, 2}, {"h" + strings.Repeat("a", 119), 0, 1, 120}, {strings.Repeat("a.", 60), 0, 1, 2}, {strings.Repeat("abcdefgh", 15), 7, 7, 2}, {strings.Repeat("a", 118) + "bb", 0, 1, 40}, {strings.Repeat("a", 118) + "bb", 1, 7021, 120},
	}
	for _, c := range cases {
		above, below, code := impl.MeanWait(slots(c.text), c.i)
		wantMean10(t, fmt.Sprint("MeanWait ", c.text, c.i), above, below, code, big.NewRat(c.above, c.below))
		if above != c.above || below != c.below {
			t.Errorf("MeanWait(%s, %d) = %d/%d, not %d/%d", c.text, c.i, above, below, c.above, c.below)
		}
	}
	shortened := 0
	eachWaits10(func(turns []int64, i int64, waits []int64) {
		above, below, code := impl.MeanWait(turns, i)
		wantMean10(t, fmt.Sprint("MeanWait ", turns, i), above, below, code, mean10(waits))
		if below < int64(len(turns)) {
			shortened++
		}
	})
	if shortened < 1000 {
		t.Errorf("only %d means can be shortened", shortened)
	}
}

func TestWorstSlot(t *testing.T) {
	cases := []struct {
		text    string
		i       int64
		slot, w int64
	}{
		{"a", 0, 0, 0}, {"h", 7, 0, 0}, {"aaaa", 0, 0, 0}, {strings.Repeat("a", 120), 0, 0, 0}, {"ab", 0, 1, 1}, {"ab", 1, 0, 1}, {"abac", 1, 2, 3}, {"abac", 2, 0, 3}, {"abac", 0, 1, 1}, {"aab", 1, 0, 2}, {"baab", 1, 1, 2}, {"baab", 0, 3, 2}, {"a.a.a.", 0, 1, 1}, {"..a..a", 0, 0, 2}, {".a..", 0, 2, 3}, {".aa.", 0, 3, 2}, {"a..a.", 0, 1, 2}, {"a.a..", 0, 3, 2},
		{"b" + strings.Repeat("a", 119), 1, 1, 119}, {strings.Repeat("a", 119) + "b", 1, 0, 119}, {"b" + strings.Repeat("a", 119), 0, 0, 1}, {strings.Repeat("a", 119) + "b", 0, 119, 1}, {strings.Repeat("ab", 60), 0, 1, 1},
	}
	for _, c := range cases {
		if slot, wait, code := impl.WorstSlot(slots(c.text), c.i); slot != c.slot || wait != c.w || code != impl.ErrNone {
			t.Errorf("WorstSlot(%s, %d) = %d, %d, %d, not %d, %d", c.text, c.i, slot, wait, code, c.slot, c.w)
		}
	}
	several := 0
	eachWaits10(func(turns []int64, i int64, waits []int64) {
		longest := slices.Max(waits)
		want := slices.Index(waits, longest)
		if slot, wait, code := impl.WorstSlot(turns, i); slot != int64(want) || wait != longest || code != impl.ErrNone {
			t.Fatalf("WorstSlot(%v, %d) = %d, %d, %d, not %d, %d", turns, i, slot, wait, code, want, longest)
		}
		if slices.Contains(waits[want+1:], longest) {
			several++
		}
	})
	if several < 500 {
		t.Errorf("only %d times several slots with the longest wait", several)
	}
}

func TestMeanByWeights(t *testing.T) {
	cases := []struct {
		text         string
		weights      []int64
		above, below int64
	}{
		{"abac", []int64{2, 1, 1}, 1, 1}, {"abac", []int64{1}, 1, 2}, {"abac", []int64{100}, 1, 2}, {"abac", []int64{0, 1}, 3, 2}, {"abac", []int64{1, 0, 0, 0, 0, 0, 0, 0}, 1, 2}, {"abac", []int64{0, 0, 100}, 3, 2}, {"abac", times(3, 100), 7, 6}, {"abac", times(3, 1), 7, 6}, {"abac", []int64{100, 0, 1, 0}, 103, 202},
		{"a", []int64{1}, 0, 1}, {"a", []int64{100, 0}, 0, 1}, {"aaaa", []int64{3}, 0, 1}, {"h", []int64{0, 0, 0, 0, 0, 0, 0, 1}, 0, 1}, {"hh", []int64{0, 0, 0, 0, 0, 0, 0, 100}, 0, 1}, {"ab", []int64{1, 99}, 1, 2}, {"b.", []int64{0, 7}, 1, 2}, {"abcdefgh", times(8, 100), 7, 2}, {strings.Repeat("abcdefgh", 15), times(8, 100), 7, 2}, {"aba.b", []int64{1, 1}, 4, 5}, {"aab", []int64{1, 1}, 2, 3}, {"aab", []int64{3, 1}, 1, 2},
		{strings.Repeat("a", 119) + "b", []int64{100, 100}, 7141, 240}, {strings.Repeat("a", 113) + "bcdefgh", []int64{0, 100, 100, 100, 100, 100, 100, 100}, 119, 2},
	}
	for _, c := range cases {
		above, below, code := impl.MeanByWeights(slots(c.text), c.weights)
		if above != c.above || below != c.below || code != impl.ErrNone {
			t.Errorf("MeanByWeights(%s, %v) = %d/%d, %d, not %d/%d", c.text, c.weights, above, below, code, c.above, c.below)
		}
	}
	numbers := rand.New(rand.NewSource(101))
	means, none := 0, 0
	eachTurns10(func(turns []int64) {
		for range 6 {
			weights := someWeights10(numbers, 1+numbers.Intn(8), turns)
			want, found := weighted10(turns, weights)
			above, below, code := impl.MeanByWeights(turns, weights)
			call := fmt.Sprint("MeanByWeights ", turns, weights)
			if !found {
				none++
				wantCode(t, call, code, impl.ErrNotFound, above == 0 && below == 0)
				continue
			}
			means++
			wantMean10(t, call, above, below, code, want)
		}
	})
	if means < 3000 || none < 1000 {
		t.Errorf("only %d means, %d times a task without turns", means, none)
	}
}

// someWeights10 returns k weights, not all 0: often 0 for tasks without turns, and often at both ends.
func someWeights10(numbers *rand.Rand, k int, turns []int64) []int64 {
	weights := make([]int64, k)
	for i := range weights {
		if slices.Contains(turns, int64(i)) || numbers.Intn(4) == 0 {
			weights[i] = []int64{0, 1, 1, 100, 100, numbers.Int63n(101), numbers.Int63n(101)}[numbers.Intn(7)]
		}
	}
	if slices.Max(weights) == 0 {
		weights[numbers.Intn(k)] = 1 + numbers.Int63n(100)
	}
	return weights
}

func TestWaitForBoth(t *testing.T) {
	cases := []struct {
		text             string
		i, j, slot, want int64
	}{
		{"a", 0, 0, 0, 0}, {"ab", 0, 1, 0, 1}, {"ab", 0, 1, 1, 1}, {"ab", 1, 1, 0, 1}, {"ab", 1, 1, 1, 0}, {"abac", 1, 2, 0, 3}, {"abac", 1, 2, 1, 2}, {"abac", 1, 2, 2, 3}, {"abac", 1, 2, 3, 2}, {"abac", 2, 1, 3, 2}, {"abac", 0, 2, 3, 1}, {"abac", 0, 2, 0, 3}, {"abac", 2, 2, 0, 3},
		{"a..b", 0, 1, 0, 3}, {"a..b", 0, 1, 1, 3}, {"a..b", 0, 1, 2, 2}, {"a..b", 0, 1, 3, 1}, {"aba.b", 0, 1, 2, 2}, {"gh" + strings.Repeat(".", 118), 6, 7, 1, 119}, {"gh" + strings.Repeat(".", 118), 7, 6, 2, 119}, {"gh" + strings.Repeat(".", 118), 6, 7, 0, 1}, {"gh" + strings.Repeat(".", 118), 6, 6, 1, 119},
	}
	for _, c := range cases {
		if wait, code := impl.WaitForBoth(slots(c.text), c.i, c.j, c.slot); wait != c.want || code != impl.ErrNone {
			t.Errorf("WaitForBoth(%s, %d, %d, %d) = %d, %d, not %d", c.text, c.i, c.j, c.slot, wait, code, c.want)
		}
	}
	same := 0
	eachBoth10(func(turns []int64, i, j int64, waits []int64) {
		for slot, want := range waits {
			if wait, code := impl.WaitForBoth(turns, i, j, int64(slot)); wait != want || code != impl.ErrNone {
				t.Fatalf("WaitForBoth(%v, %d, %d, %d) = %d, %d, not %d", turns, i, j, slot, wait, code, want)
			}
		}
		if i == j {
			same++
		}
	})
	if same < 1000 {
		t.Errorf("only %d times both tasks the same", same)
	}
}

func TestMeanForBoth(t *testing.T) {
	cases := []struct {
		text         string
		i, j         int64
		above, below int64
	}{
		{"a", 0, 0, 0, 1}, {"aaaa", 0, 0, 0, 1}, {"ab", 0, 1, 1, 1}, {"ab", 1, 1, 1, 2}, {"abac", 1, 2, 5, 2}, {"abac", 2, 1, 5, 2}, {"abac", 0, 1, 7, 4}, {"abac", 1, 1, 3, 2}, {"aba.b", 0, 1, 7, 5}, {"aab", 0, 1, 4, 3}, {"a..b", 0, 1, 9, 4}, {"aabb", 0, 1, 3, 2}, {"gh" + strings.Repeat(".", 118), 6, 7, 7259, 120},
	}
	for _, c := range cases {
		above, below, code := impl.MeanForBoth(slots(c.text), c.i, c.j)
		if above != c.above || below != c.below || code != impl.ErrNone {
			t.Errorf("MeanForBoth(%s, %d, %d) = %d/%d, %d, not %d/%d", c.text, c.i, c.j, above, below, code, c.above, c.below)
		}
	}
	shortened := 0
	eachBoth10(func(turns []int64, i, j int64, waits []int64) {
		above, below, code := impl.MeanForBoth(turns, i, j)
		wantMean10(t, fmt.Sprint("MeanForBoth ", turns, i, j), above, below, code, mean10(waits))
		if below < int64(len(turns)) {
			shortened++
		}
	})
	if shortened < 1000 {
		t.Errorf("only %d means can be shortened", shortened)
	}
}

func TestCountWithin(t *testing.T) {
	cases := []struct {
		text       string
		i, n, want int64
	}{
		{"a", 0, 0, 1}, {"a", 0, 120, 1}, {"abac", 1, 0, 1}, {"abac", 1, 1, 2}, {"abac", 1, 2, 3}, {"abac", 1, 3, 4}, {"abac", 1, 4, 4}, {"abac", 1, 120, 4}, {"abac", 0, 0, 2}, {"abac", 0, 1, 4}, {"aba.b", 0, 1, 4}, {"aba.b", 1, 0, 2}, {"aba.b", 1, 1, 4}, {"aaaa", 0, 0, 4}, {"....h", 7, 0, 1}, {"....h", 7, 3, 4},
		{"h" + strings.Repeat("a", 119), 7, 0, 1}, {"h" + strings.Repeat("a", 119), 7, 118, 119}, {"h" + strings.Repeat("a", 119), 7, 119, 120}, {"h" + strings.Repeat("a", 119), 7, 120, 120}, {"h" + strings.Repeat("a", 119), 0, 0, 119}, {strings.Repeat("a", 120), 0, 0, 120},
	}
	for _, c := range cases {
		if count, code := impl.CountWithin(slots(c.text), c.i, c.n); count != c.want || code != impl.ErrNone {
			t.Errorf("CountWithin(%s, %d, %d) = %d, %d, not %d", c.text, c.i, c.n, count, code, c.want)
		}
	}
	eachWaits10(func(turns []int64, i int64, waits []int64) {
		for _, n := range []int64{0, 1, 2, 3, 5, 8, 20, int64(len(turns)) - 2, int64(len(turns)) - 1, 118, 119, 120} {
			want := int64(0)
			for _, wait := range waits {
				if wait <= n {
					want++
				}
			}
			if n < 0 {
				continue
			}
			if count, code := impl.CountWithin(turns, i, n); count != want || code != impl.ErrNone {
				t.Fatalf("CountWithin(%v, %d, %d) = %d, %d, not %d", turns, i, n, count, code, want)
			}
		}
	})
}

// choice10 is turns of some tasks, each of which has a turn, with the sum of the waits for each task, over all slots
// at which one can come.
type choice10 struct {
	turns []int64
	sums  []int64
}

// total10 returns the sum of the waits by weights.
func (c choice10) total10(weights []int64) int64 {
	total := int64(0)
	for i, weight := range weights {
		total += weight * c.sums[i]
	}
	return total
}

// choices10 returns all turns of n slots with a turn of each of the first k of several tasks, in no special order:
// here the turns of the last slots differ least. The sums are found by the waits between turns: of those who come
// in one of g slots, each one has to wait for one slot less than the one ahead of him.
func choices10(n, k, several int) []choice10 {
	var list []choice10
	all := 1
	for range n {
		all *= several
	}
	for at := range all {
		turns, rest := make([]int64, n), at
		for slot := range turns {
			turns[slot] = int64(rest % several)
			rest /= several
		}
		sums := make([]int64, k)
		whole := true
		for i := range sums {
			waits := waits1(turns, int64(i))
			whole = whole && len(waits) > 0
			for _, g := range waits {
				sums[i] += g * (g - 1) / 2
			}
		}
		if whole {
			list = append(list, choice10{turns, sums})
		}
	}
	return list
}

// best10 returns the least turns of those with the least mean, and how many have it.
func best10(list []choice10, weights []int64) ([]int64, int) {
	var best []int64
	least, same := int64(0), 0
	for _, c := range list {
		total := c.total10(weights)
		switch {
		case best == nil || total < least:
			best, least, same = c.turns, total, 1
		case total == least:
			same++
			if slices.Compare(c.turns, best) < 0 {
				best = c.turns
			}
		}
	}
	return best, same
}

// eachBest10 calls f with weights for k tasks: small ones, equal ones, and some at both ends.
func eachBest10(k int, f func(weights []int64)) {
	few := []int64{1, 2, 3, 7, 100}
	if k == 3 {
		few = []int64{1, 3, 100}
	}
	var extend func(weights []int64)
	extend = func(weights []int64) {
		if len(weights) == k {
			f(slices.Clone(weights))
			return
		}
		for _, weight := range few {
			extend(append(slices.Clone(weights), weight))
		}
	}
	extend(nil)
	numbers := rand.New(rand.NewSource(102))
	for range 8 {
		weights := make([]int64, k)
		for i := range weights {
			weights[i] = 1 + numbers.Int63n(100)
		}
		f(weights)
	}
}

func TestBestTurns(t *testing.T) {
	cases := []struct {
		weights []int64
		n       int64
		want    string
	}{
		{[]int64{1}, 1, "a"}, {[]int64{100}, 1, "a"}, {[]int64{1}, 8, "aaaaaaaa"}, {[]int64{1, 1}, 2, "ab"}, {[]int64{100, 100}, 2, "ab"}, {[]int64{1, 100}, 2, "ab"}, {[]int64{1, 1}, 3, "aab"}, {[]int64{3, 1}, 3, "aab"}, {[]int64{1, 3}, 3, "abb"}, {[]int64{1, 1}, 4, "abab"}, {[]int64{1, 1}, 8, "abababab"}, {[]int64{1, 1, 1}, 3, "abc"}, {[]int64{100, 1, 1}, 3, "abc"}, {[]int64{1, 1, 100}, 3, "abc"}, {[]int64{7, 1, 1}, 4, "abac"}, {[]int64{1, 1, 7}, 4, "acbc"}, {[]int64{1, 7, 1}, 4, "abcb"}, {[]int64{1, 1, 1}, 6, "abcabc"}, {[]int64{1, 100}, 8, "abbbbbbb"}, {[]int64{100, 1}, 8, "aaaaaaab"},
	}
	for _, c := range cases {
		if turns, code := impl.BestTurns(c.weights, c.n); !slices.Equal(turns, slots(c.want)) || code != impl.ErrNone {
			t.Errorf("BestTurns(%v, %d) = %v, %d, not %s", c.weights, c.n, turns, code, c.want)
		}
	}
	several, shifted := 0, 0
	for k := 1; k <= 3; k++ {
		for n := k; n <= 8; n++ {
			list := choices10(n, k, k)
			eachBest10(k, func(weights []int64) {
				want, same := best10(list, weights)
				turns, code := impl.BestTurns(weights, int64(n))
				if !slices.Equal(turns, want) || code != impl.ErrNone {
					t.Errorf("BestTurns(%v, %d) = %v, %d, not %v", weights, n, turns, code, want)
				}
				if same > 1 {
					several++
				}
				if same > n {
					shifted++
				}
			})
		}
	}
	if several < 300 || shifted < 100 {
		t.Errorf("only %d times several turns with the same mean, %d times others than shifted ones", several, shifted)
	}
}

// TestBestTurnsOfMoreTasks also has turns of tasks without weights: none of them are best.
func TestBestTurnsOfMoreTasks(t *testing.T) {
	for k := 1; k <= 3; k++ {
		for n := k; n <= 6; n++ {
			list := choices10(n, k, k+1)
			eachBest10(k, func(weights []int64) {
				want, _ := best10(list, weights)
				if turns, code := impl.BestTurns(weights, int64(n)); !slices.Equal(turns, want) || code != impl.ErrNone {
					t.Errorf("BestTurns(%v, %d) = %v, %d, not %v", weights, n, turns, code, want)
				}
			})
		}
	}
}

// sharesBy10 gives further slots by fractions, one after the other, and counts those for which several tasks have
// equal right.
func sharesBy10(weights []int64, n int64) ([]int64, int) {
	shares, equal := times(len(weights), 1), 0
	for sum6(shares) < n {
		next, same := 0, false
		right := func(i int) *big.Rat { return big.NewRat(weights[i], shares[i]*(shares[i]+1)) }
		for i := 1; i < len(weights); i++ {
			switch right(i).Cmp(right(next)) {
			case 1:
				next, same = i, false
			case 0:
				same = true
			}
		}
		if same {
			equal++
		}
		shares[next]++
	}
	return shares, equal
}

func TestSharesByWeights(t *testing.T) {
	cases := []struct {
		weights []int64
		n       int64
		want    []int64
	}{
		{[]int64{1}, 1, []int64{1}}, {[]int64{100}, 120, []int64{120}}, {[]int64{9, 1}, 2, []int64{1, 1}}, {[]int64{9, 1}, 4, []int64{3, 1}}, {[]int64{1, 1}, 2, []int64{1, 1}}, {[]int64{1, 1}, 3, []int64{2, 1}}, {[]int64{1, 1}, 4, []int64{2, 2}}, {[]int64{0, 1}, 2, []int64{1, 1}}, {[]int64{0, 1}, 120, []int64{1, 119}}, {[]int64{1, 0}, 120, []int64{119, 1}}, {[]int64{4, 1}, 4, []int64{3, 1}}, {[]int64{4, 1}, 5, []int64{3, 2}}, {[]int64{3, 1}, 4, []int64{3, 1}}, {[]int64{1, 3}, 4, []int64{2, 2}}, {[]int64{1, 3}, 3, []int64{1, 2}},
		{times(8, 100), 120, times(8, 15)}, {times(8, 1), 8, times(8, 1)}, {times(8, 1), 9, []int64{2, 1, 1, 1, 1, 1, 1, 1}}, {times(8, 100), 119, []int64{15, 15, 15, 15, 15, 15, 15, 14}}, {[]int64{0, 0, 0, 0, 0, 0, 0, 1}, 120, []int64{1, 1, 1, 1, 1, 1, 1, 113}}, {[]int64{100, 0, 0, 0, 0, 0, 0, 0}, 8, times(8, 1)}, {[]int64{1, 100}, 12, []int64{1, 11}},
	}
	for _, c := range cases {
		if shares, code := impl.SharesByWeights(c.weights, c.n); !slices.Equal(shares, c.want) || code != impl.ErrNone {
			t.Errorf("SharesByWeights(%v, %d) = %v, %d, not %v", c.weights, c.n, shares, code, c.want)
		}
	}
	numbers := rand.New(rand.NewSource(103))
	equal := 0
	for range 600 {
		k := 1 + numbers.Intn(8)
		weights := someWeights10(numbers, k, []int64{0, 1, 2, 3, 4, 5, 6, 7})
		for _, n := range []int64{int64(len(weights)), int64(len(weights)) + numbers.Int63n(12), 60, 119, 120} {
			want, same := sharesBy10(weights, n)
			equal += same
			shares, code := impl.SharesByWeights(weights, n)
			if !slices.Equal(shares, want) || code != impl.ErrNone {
				t.Fatalf("SharesByWeights(%v, %d) = %v, %d, not %v", weights, n, shares, code, want)
			}
		}
	}
	if equal < 1000 {
		t.Errorf("only %d slots that several tasks could have", equal)
	}
}

// TestSharesByWeightsAreBest: a further slot makes the weight, divided by the share, less by what it is given for. So
// no other shares of so many slots have a lesser sum of these.
func TestSharesByWeightsAreBest(t *testing.T) {
	sum := func(weights, shares []int64) *big.Rat {
		all := new(big.Rat)
		for i, share := range shares {
			all.Add(all, big.NewRat(weights[i], share))
		}
		return all
	}
	numbers := rand.New(rand.NewSource(104))
	for range 60 {
		weights := []int64{numbers.Int63n(101), numbers.Int63n(101), 1 + numbers.Int63n(100)}
		for n := int64(3); n <= 12; n++ {
			shares, code := impl.SharesByWeights(weights, n)
			if len(shares) != 3 || sum6(shares) != n || code != impl.ErrNone {
				t.Fatalf("SharesByWeights(%v, %d) = %v, %d", weights, n, shares, code)
			}
			for a := int64(1); a <= n-2; a++ {
				for b := int64(1); a+b <= n-1; b++ {
					other := []int64{a, b, n - a - b}
					if sum(weights, other).Cmp(sum(weights, shares)) < 0 {
						t.Errorf("SharesByWeights(%v, %d) = %v, but %v are better", weights, n, shares, other)
					}
				}
			}
		}
	}
}

// edgeShares10 are shares at the limits.
var edgeShares10 = [][]int64{
	{1}, {2}, {60}, {61}, {119}, {120}, {1, 119}, {119, 1}, {60, 60}, {59, 61}, {1, 1, 118}, {40, 40, 40}, times(8, 1), times(8, 2), times(8, 15), append(times(7, 1), 113), append([]int64{113}, times(7, 1)...), {1, 2, 4, 8, 16, 32, 57}, {13, 14, 15, 17, 19, 11, 16, 15}, {11, 13, 17, 19, 23, 37}, {29, 31, 59}, {8, 7, 6, 5, 4, 3, 2, 1}, {1, 2, 3, 4, 5, 6, 7, 8},
}

// eachShares10 calls f with shares: all with a sum of at most 9, those at the limits, and others of up to MaxTasks
// tasks, the same ones on each run.
func eachShares10(f func(shares []int64)) {
	eachShares7(f)
	for _, shares := range edgeShares10 {
		f(shares)
	}
	numbers := rand.New(rand.NewSource(105))
	for range 300 {
		k := 1 + numbers.Intn(8)
		shares := times(k, 1)
		for range numbers.Intn(121 - k) {
			shares[numbers.Intn(1+numbers.Intn(k))]++
		}
		f(shares)
	}
}

// turnsFrom10 gives the slots by fractions, and counts those that several tasks could have with equal right.
func turnsFrom10(shares []int64) ([]int64, int) {
	n, equal := sum6(shares), 0
	var turns []int64
	for range n {
		next, same := int64(-1), false
		var least *big.Rat
		for i, share := range shares {
			had := int64(0)
			for _, who := range turns {
				if who == int64(i) {
					had++
				}
			}
			if had == share {
				continue
			}
			at := big.NewRat((2*had+1)*n, 2*share)
			if least == nil || at.Cmp(least) < 0 {
				next, least, same = int64(i), at, false
			} else if at.Cmp(least) == 0 {
				same = true
			}
		}
		if same {
			equal++
		}
		turns = append(turns, next)
	}
	return turns, equal
}

func TestTurnsFromShares(t *testing.T) {
	cases := []struct {
		shares []int64
		want   string
	}{
		{[]int64{1}, "a"}, {[]int64{3}, "aaa"}, {[]int64{120}, strings.Repeat("a", 120)}, {[]int64{1, 1}, "ab"}, {[]int64{2, 1}, "aba"}, {[]int64{1, 2}, "bab"}, {[]int64{3, 1}, "aaba"}, {[]int64{1, 3}, "babb"}, {[]int64{1, 1, 1}, "abc"}, {[]int64{2, 2}, "abab"}, {[]int64{4, 2, 1}, "abacaba"}, {[]int64{1, 2, 4}, "cbcacbc"}, {times(8, 1), "abcdefgh"}, {times(8, 15), strings.Repeat("abcdefgh", 15)}, {[]int64{60, 60}, strings.Repeat("ab", 60)}, {[]int64{119, 1}, strings.Repeat("a", 60) + "b" + strings.Repeat("a", 59)}, {[]int64{1, 119}, strings.Repeat("b", 59) + "a" + strings.Repeat("b", 60)},
	}
	for _, c := range cases {
		if turns, code := impl.TurnsFromShares(c.shares); !slices.Equal(turns, slots(c.want)) || code != impl.ErrNone {
			t.Errorf("TurnsFromShares(%v) = %v, %d, not %s", c.shares, turns, code, c.want)
		}
	}
	equal := 0
	eachShares10(func(shares []int64) {
		want, same := turnsFrom10(shares)
		equal += same
		turns, code := impl.TurnsFromShares(shares)
		if !slices.Equal(turns, want) || code != impl.ErrNone {
			t.Fatalf("TurnsFromShares(%v) = %v, %d, not %v", shares, turns, code, want)
		}
	})
	if equal < 1000 {
		t.Errorf("only %d slots that several tasks could have", equal)
	}
}

func TestEvenMean(t *testing.T) {
	cases := []struct {
		shares       []int64
		above, below int64
	}{
		{[]int64{1}, 0, 1}, {[]int64{5}, 0, 1}, {[]int64{120}, 0, 1}, {[]int64{1, 1}, 1, 2}, {[]int64{60, 60}, 1, 2}, {[]int64{2, 1}, 5, 8}, {[]int64{1, 2}, 5, 8}, {[]int64{1, 1, 1}, 1, 1}, {[]int64{40, 40, 40}, 1, 1}, {times(8, 1), 7, 2}, {times(8, 15), 7, 2}, {append([]int64{113}, times(7, 1)...), 11767, 226}, {[]int64{119, 1}, 7081, 238}, {[]int64{3, 1}, 5, 6},
	}
	for _, c := range cases {
		above, below, code := impl.EvenMean(c.shares)
		if above != c.above || below != c.below || code != impl.ErrNone {
			t.Errorf("EvenMean(%v) = %d/%d, %d, not %d/%d", c.shares, above, below, code, c.above, c.below)
		}
	}
	eachShares10(func(shares []int64) {
		n, want := sum6(shares), new(big.Rat)
		for _, share := range shares {
			apart := new(big.Rat).Sub(big.NewRat(n, share), big.NewRat(1, 1))
			want.Add(want, apart.Mul(apart, big.NewRat(1, 2)))
		}
		want.Mul(want, big.NewRat(1, int64(len(shares))))
		above, below, code := impl.EvenMean(shares)
		wantMean10(t, fmt.Sprint("EvenMean ", shares), above, below, code, want)
	})
}

// TestEvenMeanOfEqualDistances: where turns have equal waits, the mean of the mean waits is just the even mean; in all
// turns from shares, and in all others with these shares, it is not less.
func TestEvenMeanOfEqualDistances(t *testing.T) {
	exact := 0
	check := func(turns, shares []int64) {
		above, below, a := impl.MeanByWeights(turns, times(len(shares), 1))
		even, under, b := impl.EvenMean(shares)
		if a != impl.ErrNone || b != impl.ErrNone {
			t.Fatalf("MeanByWeights of %v: %d, EvenMean(%v): %d", turns, a, shares, b)
		}
		equal := true
		for i := range shares {
			waits := waits1(turns, int64(i))
			equal = equal && slices.Min(waits) == slices.Max(waits)
		}
		if equal {
			exact++
		}
		if order := big.NewRat(above, below).Cmp(big.NewRat(even, under)); order < 0 || (order == 0) != equal {
			t.Errorf("the mean of %v is %d/%d, but the even one is %d/%d", turns, above, below, even, under)
		}
	}
	eachShares10(func(shares []int64) {
		turns, _ := impl.TurnsFromShares(shares)
		check(turns, shares)
	})
	fewTurns7(func(turns []int64) { check(turns, shares7(turns)) })
	if exact < 50 {
		t.Errorf("only %d turns with equal waits", exact)
	}
}

// TestPromise10: means of waits are at most the worst ones, and best turns have no greater mean than others.
func TestPromise10(t *testing.T) {
	eachWaits10(func(turns []int64, i int64, _ []int64) {
		above, below, a := impl.MeanWait(turns, i)
		slot, worst, b := impl.WorstSlot(turns, i)
		wait, c := impl.WaitFrom(turns, i, slot)
		if a != impl.ErrNone || b != impl.ErrNone || c != impl.ErrNone || above > worst*below || wait != worst {
			t.Fatalf("of %v for %d: the mean %d/%d, %d, the worst wait %d, %d, and the one at its slot %d, %d", turns, i, above, below, a, worst, b, wait, c)
		}
	})
	for k := 1; k <= 3; k++ {
		for n := k; n <= 8; n++ {
			numbers := rand.New(rand.NewSource(int64(106 + n)))
			list := choices10(n, k, k)
			for range 4 {
				weights := make([]int64, k)
				for i := range weights {
					weights[i] = 1 + numbers.Int63n(100)
				}
				best, a := impl.BestTurns(weights, int64(n))
				above, below, b := impl.MeanByWeights(best, weights)
				if a != impl.ErrNone || b != impl.ErrNone {
					t.Fatalf("BestTurns(%v, %d) = %v, %d, and MeanByWeights %d", weights, n, best, a, b)
				}
				for _, c := range list {
					other, under, code := impl.MeanByWeights(c.turns, weights)
					order := big.NewRat(other, under).Cmp(big.NewRat(above, below))
					if code != impl.ErrNone || order < 0 || order == 0 && slices.Compare(c.turns, best) < 0 {
						t.Errorf("BestTurns(%v, %d) = %v have the mean %d/%d, but %v %d/%d, %d", weights, n, best, above, below, c.turns, other, under, code)
					}
				}
			}
		}
	}
}

// TestGuarantee10: waits for both are at least those for one, and turns from shares have their shares.
func TestGuarantee10(t *testing.T) {
	eachBoth10(func(turns []int64, i, j int64, _ []int64) {
		for slot := range turns {
			both, a := impl.WaitForBoth(turns, i, j, int64(slot))
			swapped, b := impl.WaitForBoth(turns, j, i, int64(slot))
			first, c := impl.WaitFrom(turns, i, int64(slot))
			second, d := impl.WaitFrom(turns, j, int64(slot))
			if max(a, b, c, d) != impl.ErrNone || both != swapped || both < first || both < second || i == j && both != first {
				t.Fatalf("of %v for %d and %d from %d: %d, %d, %d, %d", turns, i, j, slot, both, swapped, first, second)
			}
		}
		both, below, a := impl.MeanForBoth(turns, i, j)
		first, under, b := impl.MeanWait(turns, i)
		if max(a, b) != impl.ErrNone || big.NewRat(both, below).Cmp(big.NewRat(first, under)) < 0 {
			t.Fatalf("of %v for %d and %d: %d/%d, but for one %d/%d", turns, i, j, both, below, first, under)
		}
	})
	eachShares10(func(shares []int64) {
		turns, a := impl.TurnsFromShares(shares)
		have, none, b := impl.SharesOf(tasksOf(times(len(shares), 40)...), turns)
		if a != impl.ErrNone || b != impl.ErrNone || none != 0 || !slices.Equal(have, shares) {
			t.Fatalf("TurnsFromShares(%v) = %v, %d, with the shares %v, %d idle slots, %d", shares, turns, a, have, none, b)
		}
	})
}

// TestShiftedWaits: the mean is the same for shifted turns, and the waits are shifted, too.
func TestShiftedWaits(t *testing.T) {
	eachWaits10(func(turns []int64, i int64, _ []int64) {
		by := len(turns) / 3
		shifted := shift1(turns, by)
		above, below, _ := impl.MeanWait(turns, i)
		also, under, code := impl.MeanWait(shifted, i)
		wait, _ := impl.WaitFrom(turns, i, int64(by))
		first, codeToo := impl.WaitFrom(shifted, i, 0)
		if above != also || below != under || wait != first || code != impl.ErrNone || codeToo != impl.ErrNone {
			t.Fatalf("%v for %d: %d/%d, but shifted %d/%d; %d from %d on, but shifted %d", turns, i, above, below, also, under, wait, by, first)
		}
	})
}

// args10 are the arguments of the functions that take turns: each takes some of them.
type args10 struct {
	turns, weights []int64
	i, slot        int64
}

// call10 runs a function on turns, and reports whether all other results are zero values. It takes a task, and a
// number in 0..most for turns of so many slots, or not; or it takes weights.
type call10 struct {
	name                  string
	task, number, weights bool
	most                  func(size int64) int64
	run                   func(x args10) (bool, int64)
}

// last10 returns the greatest number of turns, but 0 if they have none that is greater.
func last10(turns []int64) int64 {
	return slices.Max(append([]int64{0}, turns...))
}

// calls10 returns the functions that take turns.
func calls10() []call10 {
	last := func(size int64) int64 { return size - 1 }
	many := func(int64) int64 { return 120 }
	return []call10{
		{"WaitFrom", true, true, false, last, func(x args10) (bool, int64) {
			y, code := impl.WaitFrom(x.turns, x.i, x.slot)
			return y == 0, code
		}},
		{"MeanWait", true, false, false, many, func(x args10) (bool, int64) {
			y, z, code := impl.MeanWait(x.turns, x.i)
			return y == 0 && z == 0, code
		}},
		{"WorstSlot", true, false, false, many, func(x args10) (bool, int64) {
			y, z, code := impl.WorstSlot(x.turns, x.i)
			return y == 0 && z == 0, code
		}},
		{"MeanByWeights", false, false, true, many, func(x args10) (bool, int64) {
			y, z, code := impl.MeanByWeights(x.turns, x.weights)
			return y == 0 && z == 0, code
		}},
		{"WaitForBoth, first", true, true, false, last, func(x args10) (bool, int64) {
			y, code := impl.WaitForBoth(x.turns, x.i, last10(x.turns), x.slot)
			return y == 0, code
		}},
		{"WaitForBoth, second", true, true, false, last, func(x args10) (bool, int64) {
			y, code := impl.WaitForBoth(x.turns, last10(x.turns), x.i, x.slot)
			return y == 0, code
		}},
		{"WaitForBoth, the same", true, true, false, last, func(x args10) (bool, int64) {
			y, code := impl.WaitForBoth(x.turns, x.i, x.i, x.slot)
			return y == 0, code
		}},
		{"MeanForBoth, first", true, false, false, many, func(x args10) (bool, int64) {
			y, z, code := impl.MeanForBoth(x.turns, x.i, last10(x.turns))
			return y == 0 && z == 0, code
		}},
		{"MeanForBoth, second", true, false, false, many, func(x args10) (bool, int64) {
			y, z, code := impl.MeanForBoth(x.turns, last10(x.turns), x.i)
			return y == 0 && z == 0, code
		}},
		{"MeanForBoth, the same", true, false, false, many, func(x args10) (bool, int64) {
			y, z, code := impl.MeanForBoth(x.turns, x.i, x.i)
			return y == 0 && z == 0, code
		}},
		{"CountWithin", true, true, false, many, func(x args10) (bool, int64) {
			y, code := impl.CountWithin(x.turns, x.i, x.slot)
			return y == 0, code
		}},
	}
}

// want10 fails the test if a function does not return this code.
func want10(t *testing.T, c call10, x args10, want int64) {
	t.Helper()
	zero, code := c.run(x)
	wantCode(t, fmt.Sprint(c.name, " of ", x), code, want, zero)
}

// TestErrors10 has no fault, one, or several ones at once, for which the order of errors decides.
func TestErrors10(t *testing.T) {
	for faults := range 32 {
		has := func(bit int) bool { return faults>>bit&1 == 1 }
		badTurns, badTask, badNumber, badWeights, noTurn := has(0), has(1), has(2), has(3), has(4)
		x := args10{turns: []int64{0, 1, -1, 1}, weights: []int64{2, 1, 0}, i: 0, slot: 1}
		if noTurn {
			x.i, x.weights = 2, []int64{2, 0, 1}
		}
		if badTurns {
			x.turns[2] = 8
		}
		if badTask {
			x.i = 8
		}
		if badNumber {
			x.slot = 121
		}
		if badWeights {
			x.weights[0] = 101
		}
		for _, c := range calls10() {
			want := int64(impl.ErrNone)
			switch {
			case badTurns || c.task && badTask || c.number && badNumber || c.weights && badWeights:
				want = impl.ErrRange
			case noTurn:
				want = impl.ErrNotFound
			}
			want10(t, c, x, want)
		}
	}
}

// TestRanges10 has turns, tasks and numbers that are not as told, also beside tasks that have no turn.
func TestRanges10(t *testing.T) {
	good := append(edgeTurns10(), slots("."), slots("..b."), slots("abac"))
	for _, c := range calls10() {
		for _, turns := range append(badTurns1(8), append(times(120, 0), 1), append(slots("ab"), -2), append(slots("ab"), 9)) {
			for _, i := range []int64{0, 1, 5, 7} {
				want10(t, c, args10{turns: turns, weights: []int64{1}, i: i}, impl.ErrRange)
				want10(t, c, args10{turns: turns, weights: times(8, 1), i: i}, impl.ErrRange)
			}
		}
		for _, turns := range good {
			size := int64(len(turns))
			for _, i := range badPlaces8(8) {
				if c.task {
					want10(t, c, args10{turns: turns, i: i}, impl.ErrRange)
				}
			}
			most := c.most(size)
			for _, bad := range append([]int64{-1, -2, -size, most + 1, most + 2, 256, 1 << 16, 1 << 32}, farNumbers...) {
				if c.number {
					for _, i := range []int64{0, 5, 7} {
						want10(t, c, args10{turns: turns, i: i, slot: bad}, impl.ErrRange)
					}
				}
			}
			for _, weights := range badWeights10() {
				if c.weights {
					want10(t, c, args10{turns: turns, weights: weights}, impl.ErrRange)
				}
			}
			for _, ok := range []int64{0, most} {
				for i := range int64(8) {
					if has := slices.Contains(turns, i); c.task && !has {
						want10(t, c, args10{turns: turns, i: i, slot: ok}, impl.ErrNotFound)
					} else if c.task && has {
						want10(t, c, args10{turns: turns, i: i, slot: ok}, impl.ErrNone)
					}
				}
			}
		}
	}
}

// badWeights10 are lists that are no weights.
func badWeights10() [][]int64 {
	bad := [][]int64{nil, {}, {0}, {0, 0}, times(8, 0), times(9, 0), times(9, 1), append(times(8, 0), 1), append([]int64{1}, times(8, 0)...), times(1000, 1), {101}, {-1}, {1, -1}, {-1, 1}, {101, 0}, {100, 101}, times(8, 101), {50, -50}, {1, 2, 3, 4, 5, 6, 7, 101}, {1, 2, 3, 4, 5, 6, 7, -1}, {256 + 1}, {1<<16 + 1}, {1<<32 + 1}}
	for _, far := range farNumbers {
		bad = append(bad, []int64{far}, []int64{far, 1}, []int64{1, far}, []int64{far, 0, far}, append(times(7, 100), far))
	}
	return bad
}

// TestNotFound10 has weights for tasks without turns.
func TestNotFound10(t *testing.T) {
	cases := []struct {
		text    string
		weights []int64
		want    int64
	}{
		{".", []int64{1}, impl.ErrNotFound}, {"a", []int64{1, 1}, impl.ErrNotFound}, {"a", []int64{0, 1}, impl.ErrNotFound}, {"a", []int64{1, 0}, impl.ErrNone}, {"b", []int64{1, 1}, impl.ErrNotFound}, {"b", []int64{0, 1}, impl.ErrNone}, {"b", []int64{1}, impl.ErrNotFound}, {"abcdefg", times(8, 1), impl.ErrNotFound}, {"abcdefg", []int64{1, 1, 1, 1, 1, 1, 1, 0}, impl.ErrNone}, {"abcdefg.", []int64{0, 0, 0, 0, 0, 0, 0, 100}, impl.ErrNotFound}, {"bcdefgh", []int64{100, 0, 0, 0, 0, 0, 0, 0}, impl.ErrNotFound}, {"bcdefgh", []int64{0, 100, 100, 100, 100, 100, 100, 100}, impl.ErrNone}, {strings.Repeat(".", 120), []int64{0, 0, 1}, impl.ErrNotFound},
	}
	for _, c := range cases {
		above, below, code := impl.MeanByWeights(slots(c.text), c.weights)
		wantCode(t, fmt.Sprint("MeanByWeights ", c.text, c.weights), code, c.want, above == 0 && below == 0)
	}
}

// TestErrorsOfBest10 has weights and numbers of slots for best turns and for shares.
func TestErrorsOfBest10(t *testing.T) {
	calls := []struct {
		name         string
		tasks, slots int64
		zeros        bool
		run          func(weights []int64, n int64) ([]int64, int64)
	}{{"BestTurns", 3, 8, false, impl.BestTurns}, {"SharesByWeights", 8, 120, true, impl.SharesByWeights}}
	bad := []int64{0, -1, -2, 256 + 1, 1<<16 + 1, 1<<32 + 1}
	for _, c := range calls {
		ends := append([]int64{c.slots + 1, c.slots + 2}, slices.Concat(bad, farNumbers)...)
		wrong := append(badWeights10(), times(int(c.tasks)+1, 1), times(int(c.tasks)+2, 100))
		want := func(weights []int64, n, want int64) {
			t.Helper()
			y, code := c.run(weights, n)
			wantCode(t, fmt.Sprint(c.name, weights, n), code, want, len(y) == 0)
			if want == impl.ErrNone && len(y) == 0 {
				t.Errorf("%s %v %d has no result", c.name, weights, n)
			}
		}
		for _, weights := range wrong {
			for _, n := range append(ends, 1, 2, 3, 8) {
				want(weights, n, impl.ErrRange)
			}
		}
		for k := int64(1); k <= c.tasks; k++ {
			for _, weight := range []int64{1, 100} {
				for _, n := range ends {
					want(times(int(k), weight), n, impl.ErrRange)
				}
				for n := int64(1); n < k; n++ {
					want(times(int(k), weight), n, impl.ErrLimit)
				}
				want(times(int(k), weight), k, impl.ErrNone)
				want(times(int(k), weight), c.slots, impl.ErrNone)
			}
			for at := range int(k) {
				weights := times(int(k), 3)
				weights[at] = 0
				if c.zeros && k > 1 {
					want(weights, k, impl.ErrNone)
					want(weights, 1, impl.ErrLimit)
				} else {
					want(weights, k, impl.ErrRange)
					want(weights, 1, impl.ErrRange) // ahead of ErrLimit
				}
			}
		}
	}
}

// badShares10 are lists that are no shares.
func badShares10() [][]int64 {
	bad := [][]int64{nil, {}, times(9, 1), times(120, 1), times(121, 1), times(1000, 1), {60, 61}, {61, 60}, {1, 120}, {120, 1}, {120, 120}, {1, 1, 119}, append(times(7, 1), 114), append(times(7, 15), 16), times(8, 16), times(8, 120), times(9, 120), {1, 2, 0, 3}, {119, 2, -1}, {121, -1}, {120, 0}, {0, 120}, {0}, {0, 0}}
	for _, share := range append([]int64{0, -1, -2, -120, 121, 122, 256 + 1, 1<<16 + 1, 1<<32 + 1}, farNumbers...) {
		bad = append(bad, []int64{share}, []int64{share, 1}, []int64{1, share}, []int64{2, share, 3}, append(times(7, 4), share), []int64{share, share}, times(4, share), times(8, share), []int64{share, -share}, []int64{1 - share, share})
	}
	return bad
}

func TestErrorsOfShares10(t *testing.T) {
	for _, bad := range badShares10() {
		turns, code := impl.TurnsFromShares(bad)
		wantCode(t, fmt.Sprint("TurnsFromShares", bad), code, impl.ErrRange, len(turns) == 0)
		above, below, code := impl.EvenMean(bad)
		wantCode(t, fmt.Sprint("EvenMean", bad), code, impl.ErrRange, above == 0 && below == 0)
	}
}

// TestMemory10 writes over results, and looks whether arguments, and what stands behind their ends, keep what they
// had.
func TestMemory10(t *testing.T) {
	turnsWere, weightsWere := slots("abac.bcah"), []int64{3, 1, 2}
	turns, weights := withSpare(turnsWere), withSpare(weightsWere)
	calls := map[string]func() []int64{
		"BestTurns":              func() []int64 { y, _ := impl.BestTurns(weights, 5); return y },
		"BestTurns of few slots": func() []int64 { y, _ := impl.BestTurns(weights, 3); return y },
		"SharesByWeights":        func() []int64 { y, _ := impl.SharesByWeights(weights, 9); return y },
		"SharesByWeights of few": func() []int64 { y, _ := impl.SharesByWeights(weights, 3); return y },
		"TurnsFromShares":        func() []int64 { y, _ := impl.TurnsFromShares(weights); return y },
		"the others": func() []int64 {
			wait, _ := impl.WaitFrom(turns, 1, 3)
			a, b, _ := impl.MeanWait(turns, 0)
			c, d, _ := impl.WorstSlot(turns, 7)
			e, f, _ := impl.MeanByWeights(turns, weights)
			both, _ := impl.WaitForBoth(turns, 1, 2, 4)
			g, h, _ := impl.MeanForBoth(turns, 0, 7)
			count, _ := impl.CountWithin(turns, 2, 3)
			j, k, _ := impl.EvenMean(weights)
			return []int64{wait, a, b, c, d, e, f, both, g, h, count, j, k}
		},
	}
	for name, call := range calls {
		first := call()
		kept := slices.Clone(first)
		overwrite(first)
		if len(kept) < 3 || !spareIsWhole(turns, turnsWere) || !spareIsWhole(weights, weightsWere) {
			t.Fatalf("%s shares memory with an argument, or changes it: %v", name, kept)
		}
		if !slices.Equal(call(), kept) {
			t.Errorf("%s returns something else on its second call", name)
		}
	}
}
