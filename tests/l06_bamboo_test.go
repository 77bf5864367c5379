package tests

import (
	"fmt"
	"math/rand"
	"slices"
	"strings"
	"testing"

	"loop.example/g01404/impl"
)

// gardenOf returns the garden with the given rates.
func gardenOf(rates ...int64) impl.Garden {
	return impl.Garden{Rates: rates}
}

// sum6 returns the sum of all rates.
func sum6(rates []int64) int64 {
	sum := int64(0)
	for _, rate := range rates {
		sum += rate
	}
	return sum
}

// highest6 returns the first plant with the greatest height.
func highest6(heights []int64) int64 {
	return int64(slices.Index(heights, slices.Max(heights)))
}

// fastest6 looks for a plant that may be cut, at first among those with the greatest rate.
func fastest6(rates, heights []int64, x int64) int64 {
	for rate := int64(20); rate >= 1; rate-- {
		for i := range rates {
			if rates[i] == rate && heights[i] >= x {
				return int64(i)
			}
		}
	}
	return -1
}

// days6 has what comes of many days of a rule: the heights behind the cut of each day, those of the
// day 0 at first, the plants that are cut on the days from 1 on, and the greatest heights ahead of the
// cuts so far. The rule is that of height for x of 0, and that of speed with x for others.
type days6 struct {
	behind [][]int64
	cuts   []int64
	most   []int64
}

func daysOf6(rates []int64, x int64, days int) days6 {
	d := days6{behind: [][]int64{times(len(rates), 0)}, most: []int64{0}}
	for day := range days {
		heights := slices.Clone(d.behind[day])
		for i, rate := range rates {
			heights[i] += rate
		}
		d.most = append(d.most, max(d.most[day], slices.Max(heights)))
		cut := highest6(heights)
		if x > 0 {
			cut = fastest6(rates, heights, x)
		}
		if cut >= 0 {
			heights[cut] = 0
		}
		d.cuts = append(d.cuts, cut)
		d.behind = append(d.behind, heights)
	}
	return d
}

// round6 looks for the first day with heights that came before, and returns the days ahead of the
// round, and the last one of the round, 0 and 0 if there is no round so far.
func (d days6) round6() (int, int) {
	for end := range d.behind {
		for first := range end {
			if slices.Equal(d.behind[first], d.behind[end]) {
				return first, end
			}
		}
	}
	return 0, 0
}

// behind6 returns the heights behind days of turns: for each plant, what it has grown since its last
// cut, or since the first day.
func behind6(rates, turns []int64, days int) []int64 {
	heights := times(len(rates), 0)
	for i, rate := range rates {
		for day := days; day > 0 && who1(turns, day-1) != int64(i); day-- {
			heights[i] += rate
		}
	}
	return heights
}

// tower6 returns the greatest height ahead of a cut in two rounds of turns, 0 if a plant has no turn.
func tower6(rates, turns []int64) int64 {
	tower, heights := int64(0), times(len(rates), 0)
	for i := range rates {
		if !slices.Contains(turns, int64(i)) {
			return 0
		}
	}
	for day := range 2 * len(turns) {
		for i, rate := range rates {
			heights[i] += rate
			tower = max(tower, heights[i])
		}
		if cut := who1(turns, day); cut >= 0 {
			heights[cut] = 0
		}
	}
	return tower
}

// gapsFor6 returns for each plant the greatest number of days in which it grows to at most m.
func gapsFor6(rates []int64, m int64) []int64 {
	var gaps []int64
	for _, rate := range rates {
		gap := int64(0)
		for (gap+1)*rate <= m {
			gap++
		}
		gaps = append(gaps, gap)
	}
	return gaps
}

// states6 returns the product of gaps.
func states6(gaps []int64) int64 {
	product := int64(1)
	for _, gap := range gaps {
		product *= gap
	}
	return product
}

// leastTower6 tries the heights from the sum of the rates on, by striking out states of their tasks.
func leastTower6(rates []int64) (int64, int64) {
	var last []int64
	for m := sum6(rates); ; m++ {
		gaps := gapsFor6(rates, m)
		if slices.Max(gaps) > 40 || states6(gaps) > 4000 {
			return 0, impl.ErrLimit
		}
		if !slices.Equal(gaps, last) && modelOf2(gaps).served() {
			return m, impl.ErrNone
		}
		last = gaps
	}
}

// fewRates6 calls f with all rates of at most three plants that are at most the told one for as many
// plants.
func fewRates6(most [3]int64, f func(rates []int64)) {
	var extend func(rates []int64, left int, top int64)
	extend = func(rates []int64, left int, top int64) {
		if left == 0 {
			f(slices.Clone(rates))
			return
		}
		for rate := int64(1); rate <= top; rate++ {
			extend(append(slices.Clone(rates), rate), left-1, top)
		}
	}
	for k, top := range most {
		extend(nil, k+1, top)
	}
}

// edgeRates6 are rates at the limits, and ones that are the same for several plants.
var edgeRates6 = [][]int64{
	{1}, {20}, {1, 1}, {20, 20}, {1, 20}, {20, 1}, {20, 1, 1}, {1, 20, 20}, {1, 19, 20}, {5, 5, 3}, {3, 5, 5}, {5, 3, 5}, {20, 10, 5, 5}, {8, 4, 2, 1}, {1, 2, 4, 8},
	times(8, 1), times(8, 20), times(7, 1), {1, 2, 3, 4, 5, 6, 7, 8}, {8, 7, 6, 5, 4, 3, 2, 1}, {20, 1, 1, 1, 1, 1, 1, 1}, {1, 1, 1, 1, 1, 1, 1, 20}, {20, 19, 18, 17, 16, 15, 14, 13}, {3, 9, 9, 3, 9, 3, 1, 9},
}

// eachRates6 calls f with rates: all of few plants, those at the limits, and others of up to MaxTasks
// plants, the same ones on each run.
func eachRates6(f func(rates []int64)) {
	fewRates6([3]int64{20, 20, 5}, f)
	for _, rates := range edgeRates6 {
		f(rates)
	}
	numbers := rand.New(rand.NewSource(6))
	for range 700 {
		rates, most := make([]int64, 1+numbers.Intn(8)), []int64{3, 8, 20}[numbers.Intn(3)]
		for i := range rates {
			rates[i] = 1 + numbers.Int63n(most)
		}
		f(rates)
	}
}

// eachTurns6 calls f with rates and turns of the plants: all short turns of three plants, and long ones
// of up to MaxTasks plants.
func eachTurns6(f func(rates, turns []int64)) {
	lists := [][]int64{{1, 1, 1}, {3, 2, 1}, {1, 20, 7}, {20, 20, 20}, {2, 5, 5}}
	at := 0
	shortTurns(5, 3, func(turns []int64) {
		f(lists[at%len(lists)], turns)
		at++
	})
	numbers := rand.New(rand.NewSource(66))
	longTurns(func(turns []int64) {
		rates := make([]int64, max(1, 1+slices.Max(turns)))
		for i := range rates {
			rates[i] = 1 + numbers.Int63n(20)
		}
		f(rates, turns)
		if len(rates) < 8 {
			f(append(rates, 1+numbers.Int63n(20)), turns) // the last plant has no turn
		}
	})
}

// badGardens6 are rates that are no garden.
func badGardens6() []impl.Garden {
	bad := []impl.Garden{{}, gardenOf(), {Rates: []int64{}}, {Rates: times(9, 1)}, {Rates: times(9, 20)}, {Rates: times(1000, 2)}}
	for _, rate := range append([]int64{0, -1, -20, 21, 22, 256, 257, 1 << 16}, farNumbers...) {
		bad = append(bad, gardenOf(rate), gardenOf(1, rate), gardenOf(rate, 20), gardenOf(3, rate, 2), gardenOf(append(times(7, 4), rate)...), gardenOf(rate, rate))
	}
	return bad
}

func TestConstants6(t *testing.T) {
	if impl.MaxRate != 20 || impl.MaxDays != 200 || impl.MaxTower != 1000 {
		t.Errorf("limits %d, %d, %d", impl.MaxRate, impl.MaxDays, impl.MaxTower)
	}
}

func TestIsGarden(t *testing.T) {
	eachRates6(func(rates []int64) {
		if !impl.IsGarden(gardenOf(rates...)) {
			t.Errorf("IsGarden(%v) = false", rates)
		}
	})
	for _, bad := range badGardens6() {
		if impl.IsGarden(bad) {
			t.Errorf("IsGarden(%v) = true", bad)
		}
	}
	for rate := int64(-50); rate <= 50; rate++ {
		for k := range 12 {
			for at := range k {
				rates := times(k, 7)
				rates[at] = rate
				if want := k <= 8 && rate >= 1 && rate <= 20; impl.IsGarden(gardenOf(rates...)) != want {
					t.Errorf("IsGarden(%v) is not %v", rates, want)
				}
			}
		}
	}
}

func TestSumOfRates(t *testing.T) {
	cases := []struct {
		rates []int64
		want  int64
	}{
		{[]int64{1}, 1}, {[]int64{20}, 20}, {[]int64{2, 1}, 3}, {[]int64{5, 5, 5}, 15}, {times(8, 1), 8}, {times(8, 20), 160}, {[]int64{1, 2, 3, 4, 5, 6, 7, 8}, 36}, {[]int64{20, 1, 1}, 22},
	}
	for _, c := range cases {
		if sum, code := impl.SumOfRates(gardenOf(c.rates...)); sum != c.want || code != impl.ErrNone {
			t.Errorf("SumOfRates(%v) = %d, %d", c.rates, sum, code)
		}
	}
	eachRates6(func(rates []int64) {
		if sum, code := impl.SumOfRates(gardenOf(rates...)); sum != sum6(rates) || code != impl.ErrNone {
			t.Errorf("SumOfRates(%v) = %d, %d", rates, sum, code)
		}
	})
}

func TestGrowDays(t *testing.T) {
	cases := []struct {
		rates, heights []int64
		days           int64
		want           []int64
	}{
		{[]int64{2, 1}, []int64{0, 3}, 2, []int64{4, 5}}, {[]int64{1}, []int64{0}, 0, []int64{0}}, {[]int64{1}, []int64{0}, 1, []int64{1}}, {[]int64{20}, []int64{0}, 200, []int64{4000}}, {[]int64{1}, []int64{100000}, 0, []int64{100000}},
		// Grown heights may be greater than those that can be told.
		{[]int64{20}, []int64{100000}, 200, []int64{104000}}, {[]int64{1}, []int64{100000}, 1, []int64{100001}}, {[]int64{1, 20, 7}, []int64{100000, 0, 50}, 200, []int64{100200, 4000, 1450}},
		{[]int64{5, 5, 5}, []int64{7, 7, 7}, 3, []int64{22, 22, 22}}, {times(8, 20), times(8, 100000), 200, times(8, 104000)}, {times(8, 1), times(8, 0), 0, times(8, 0)}, {[]int64{1, 2, 3, 4, 5, 6, 7, 8}, times(8, 10), 10, []int64{20, 30, 40, 50, 60, 70, 80, 90}},
	}
	for _, c := range cases {
		heights, code := impl.GrowDays(gardenOf(c.rates...), c.heights, c.days)
		wantTurns3(t, fmt.Sprint("GrowDays", c.rates, c.heights, c.days), heights, c.want, code, impl.ErrNone)
	}
	numbers := rand.New(rand.NewSource(61))
	eachRates6(func(rates []int64) {
		heights := someHeights6(numbers, len(rates))
		for _, days := range []int64{0, 1, 200, 2 + numbers.Int63n(198)} {
			var want []int64
			for i, height := range heights {
				for range days {
					height += rates[i]
				}
				want = append(want, height)
			}
			got, code := impl.GrowDays(gardenOf(rates...), heights, days)
			wantTurns3(t, fmt.Sprint("GrowDays", rates, heights, days), got, want, code, impl.ErrNone)
		}
	})
}

// someHeights6 returns heights of k plants, often the same for several ones, and at the limits.
func someHeights6(numbers *rand.Rand, k int) []int64 {
	most := []int64{1, 2, 5, 50, 1100, 100001}[numbers.Intn(6)]
	heights := make([]int64, k)
	for i := range heights {
		heights[i] = numbers.Int63n(most)
		if numbers.Intn(12) == 0 {
			heights[i] = []int64{0, 100000}[numbers.Intn(2)]
		}
	}
	return heights
}

func TestCutByHeight(t *testing.T) {
	cases := []struct {
		rates, heights []int64
		want           int64
	}{
		{[]int64{2, 1}, []int64{4, 4}, 0}, {[]int64{1, 2}, []int64{4, 4}, 0}, {[]int64{1, 2}, []int64{4, 5}, 1}, {[]int64{20, 1}, []int64{4, 5}, 1}, {[]int64{1, 20}, []int64{5, 4}, 0}, {[]int64{1}, []int64{0}, 0}, {[]int64{1}, []int64{100000}, 0},
		{[]int64{1, 2, 3}, []int64{0, 0, 0}, 0}, {[]int64{1, 2, 3}, []int64{0, 0, 1}, 2}, {[]int64{1, 2, 3}, []int64{0, 1, 1}, 1}, {[]int64{1, 2, 3}, []int64{100000, 99999, 100000}, 0}, {[]int64{1, 2, 3}, []int64{99999, 100000, 100000}, 1},
		{times(8, 20), times(8, 0), 0}, {times(8, 1), []int64{0, 0, 0, 0, 0, 0, 0, 1}, 7}, {times(8, 1), []int64{1, 2, 3, 4, 4, 3, 2, 1}, 3}, {[]int64{1, 2, 3, 4, 5, 6, 7, 8}, times(8, 100000), 0},
	}
	for _, c := range cases {
		if who, code := impl.CutByHeight(gardenOf(c.rates...), c.heights); who != c.want || code != impl.ErrNone {
			t.Errorf("CutByHeight(%v, %v) = %d, %d, not %d", c.rates, c.heights, who, code, c.want)
		}
	}
	numbers := rand.New(rand.NewSource(62))
	eachRates6(func(rates []int64) {
		for range 8 {
			heights := someHeights6(numbers, len(rates))
			if who, code := impl.CutByHeight(gardenOf(rates...), heights); who != highest6(heights) || code != impl.ErrNone {
				t.Errorf("CutByHeight(%v, %v) = %d, %d", rates, heights, who, code)
			}
		}
	})
}

func TestCutBySpeed(t *testing.T) {
	cases := []struct {
		rates, heights []int64
		x, want        int64
	}{
		{[]int64{2, 1}, []int64{1, 4}, 3, 1},
		// Heights of just x, and of one less.
		{[]int64{1}, []int64{5}, 5, 0}, {[]int64{1}, []int64{4}, 5, -1}, {[]int64{2, 1}, []int64{5, 5}, 5, 0}, {[]int64{2, 1}, []int64{4, 5}, 5, 1}, {[]int64{1, 2}, []int64{5, 4}, 5, 0}, {[]int64{1, 2}, []int64{5, 5}, 5, 1}, {[]int64{1, 2}, []int64{4, 4}, 5, -1},
		{[]int64{1}, []int64{0}, 1, -1}, {[]int64{1}, []int64{1}, 1, 0}, {[]int64{20, 20}, []int64{0, 0}, 1, -1}, {[]int64{20}, []int64{1000}, 1000, 0}, {[]int64{20}, []int64{999}, 1000, -1}, {[]int64{20}, []int64{100000}, 1000, 0}, {[]int64{3, 20, 1}, []int64{1000, 999, 1000}, 1000, 0},
		// The greatest rate, however high the others are, and the least plant of several.
		{[]int64{1, 2, 3}, []int64{100000, 99, 1}, 1, 2}, {[]int64{3, 2, 1}, []int64{1, 99, 100000}, 2, 1}, {[]int64{5, 5, 5}, []int64{7, 8, 9}, 7, 0}, {[]int64{5, 5, 5}, []int64{7, 8, 9}, 8, 1}, {[]int64{5, 5, 5}, []int64{7, 8, 9}, 9, 2}, {[]int64{5, 5, 5}, []int64{7, 8, 9}, 10, -1}, {[]int64{4, 5, 5}, []int64{9, 7, 9}, 7, 1},
		{times(8, 20), times(8, 1), 1, 0}, {times(8, 20), times(8, 1), 2, -1}, {[]int64{1, 2, 3, 4, 5, 6, 7, 8}, times(8, 3), 3, 7}, {[]int64{1, 2, 3, 4, 5, 6, 7, 8}, []int64{3, 3, 3, 3, 3, 3, 3, 2}, 3, 6}, {[]int64{1, 2, 3, 4, 5, 6, 7, 8}, []int64{3, 2, 2, 2, 2, 2, 2, 2}, 3, 0},
	}
	for _, c := range cases {
		if who, code := impl.CutBySpeed(gardenOf(c.rates...), c.heights, c.x); who != c.want || code != impl.ErrNone {
			t.Errorf("CutBySpeed(%v, %v, %d) = %d, %d, not %d", c.rates, c.heights, c.x, who, code, c.want)
		}
	}
	none, some := 0, 0
	numbers := rand.New(rand.NewSource(63))
	eachRates6(func(rates []int64) {
		heights := someHeights6(numbers, len(rates))
		any6 := heights[numbers.Intn(len(heights))]
		for _, x := range []int64{1, 1000, 1 + numbers.Int63n(60), any6, any6 + 1} {
			x = min(max(x, 1), 1000)
			want := fastest6(rates, heights, x)
			if who, code := impl.CutBySpeed(gardenOf(rates...), heights, x); who != want || code != impl.ErrNone {
				t.Errorf("CutBySpeed(%v, %v, %d) = %d, %d, not %d", rates, heights, x, who, code, want)
			}
			if want < 0 {
				none++
			} else {
				some++
			}
		}
	})
	if none < 500 || some < 500 {
		t.Errorf("only %d heights without a cut, %d with one", none, some)
	}
}

func TestHeightsBehind(t *testing.T) {
	cases := []struct {
		rates []int64
		text  string
		days  int64
		want  []int64
	}{
		{[]int64{2, 1}, "ab", 3, []int64{0, 1}}, {[]int64{2, 1}, "ab", 0, []int64{0, 0}}, {[]int64{2, 1}, "ab", 1, []int64{0, 1}}, {[]int64{2, 1}, "ab", 2, []int64{2, 0}}, {[]int64{2, 1}, "ab", 200, []int64{2, 0}},
		// Idle slots, plants with several turns, and with none.
		{[]int64{3}, ".", 0, []int64{0}}, {[]int64{3}, ".", 7, []int64{21}}, {[]int64{20}, ".", 200, []int64{4000}}, {[]int64{20}, "a", 200, []int64{0}}, {[]int64{1, 20}, "a", 200, []int64{0, 4000}}, {[]int64{1, 2}, "a.b", 5, []int64{1, 4}}, {[]int64{1, 2, 3}, "aab.", 6, []int64{0, 6, 18}}, {[]int64{1, 2, 3}, "ca", 200, []int64{0, 400, 3}},
		{[]int64{1, 2, 3, 4, 5, 6, 7, 8}, "abcdefgh", 8, []int64{7, 12, 15, 16, 15, 12, 7, 0}}, {[]int64{1, 2, 3, 4, 5, 6, 7, 8}, "hgfedcba", 3, []int64{3, 6, 9, 12, 15, 0, 7, 16}}, {times(8, 1), strings.Repeat("h", 120), 120, []int64{120, 120, 120, 120, 120, 120, 120, 0}}, {[]int64{1, 1}, strings.Repeat(".", 119) + "a", 120, []int64{0, 120}}, {[]int64{1, 1}, strings.Repeat(".", 119) + "a", 119, []int64{119, 119}}, {[]int64{1, 1}, strings.Repeat(".", 119) + "a", 121, []int64{1, 121}}, {[]int64{1, 1}, "b" + strings.Repeat(".", 119), 121, []int64{121, 0}},
	}
	for _, c := range cases {
		heights, code := impl.HeightsBehind(gardenOf(c.rates...), slots(c.text), c.days)
		wantTurns3(t, fmt.Sprint("HeightsBehind", c.rates, c.text, c.days), heights, c.want, code, impl.ErrNone)
	}
	at := 0
	eachTurns6(func(rates, turns []int64) {
		at++
		for _, days := range []int{0, len(turns), at % 200, 200} {
			heights, code := impl.HeightsBehind(gardenOf(rates...), turns, int64(days))
			wantTurns3(t, fmt.Sprint("HeightsBehind", rates, turns, days), heights, behind6(rates, turns, days), code, impl.ErrNone)
		}
	})
}

func TestTowerOf(t *testing.T) {
	cases := []struct {
		rates   []int64
		text    string
		want    int64
		wantErr int64
	}{
		{[]int64{2, 1}, "ab", 4, 0}, {[]int64{1}, "a", 1, 0}, {[]int64{20}, "a", 20, 0}, {[]int64{20}, "a.", 40, 0}, {[]int64{1, 1}, "ab", 2, 0}, {[]int64{5, 5, 5}, "abc", 15, 0},
		// The sum of the rates, and more.
		{[]int64{2, 1, 1}, "abac", 4, 0}, {[]int64{2, 1, 1}, "abaca", 5, 0}, {[]int64{20, 10, 5, 5}, "abacabad", 40, 0}, {[]int64{20, 10, 5, 5}, "abcd", 80, 0}, {[]int64{1, 2, 3}, "cbca", 8, 0}, {[]int64{3, 1}, "aab", 6, 0}, {[]int64{1, 3}, "aab", 9, 0},
		// Waits that go over the end, one turn and several, and idle slots.
		{[]int64{4, 1}, "aab.a", 12, 0}, {[]int64{4, 1}, "ba...", 20, 0}, {[]int64{4, 1}, ".a..b", 20, 0}, {[]int64{1, 1}, "aaaaab", 6, 0}, {[]int64{4, 1}, "a..aab", 12, 0}, {[]int64{4, 1}, "..a.ab", 16, 0},
		{times(8, 20), "abcdefgh", 160, 0}, {[]int64{1, 2, 3, 4, 5, 6, 7, 8}, "abcdefgh", 64, 0}, {[]int64{20}, strings.Repeat(".", 119) + "a", 2400, 0}, {[]int64{20, 20}, "b" + strings.Repeat("a", 119), 2400, 0}, {[]int64{1}, strings.Repeat("a", 120), 1, 0},
		{[]int64{1}, ".", 0, impl.ErrNotFound}, {[]int64{1, 1}, "a", 0, impl.ErrNotFound}, {[]int64{1, 1}, "b", 0, impl.ErrNotFound}, {[]int64{1, 1, 1}, "ac", 0, impl.ErrNotFound}, {[]int64{1, 1, 1}, "ab.", 0, impl.ErrNotFound}, {times(8, 1), "abcdefg", 0, impl.ErrNotFound}, {times(8, 20), strings.Repeat(".", 120), 0, impl.ErrNotFound},
	}
	for _, c := range cases {
		tower, code := impl.TowerOf(gardenOf(c.rates...), slots(c.text))
		if tower != c.want || code != c.wantErr {
			t.Errorf("TowerOf(%v, %s) = %d, %d, not %d, %d", c.rates, c.text, tower, code, c.want, c.wantErr)
		}
	}
	codes := map[int64]int{}
	eachTurns6(func(rates, turns []int64) {
		want, wantErr := tower6(rates, turns), int64(impl.ErrNone)
		if want == 0 {
			wantErr = impl.ErrNotFound
		}
		codes[wantErr]++
		tower, code := impl.TowerOf(gardenOf(rates...), turns)
		if tower != want || code != wantErr {
			t.Errorf("TowerOf(%v, %v) = %d, %d, not %d, %d", rates, turns, tower, code, want, wantErr)
		}
	})
	if codes[impl.ErrNone] < 500 || codes[impl.ErrNotFound] < 500 {
		t.Errorf("only these codes: %v", codes)
	}
}

// rounds6 has turns of rules by their text, with the days ahead of them. The rule is that of height for
// x of 0, and that of speed with x for others.
var rounds6 = []struct {
	rates []int64
	x     int64
	text  string
	ahead int64
}{
	// Rounds that begin at first: those of one plant.
	{[]int64{1}, 0, "a", 0}, {[]int64{20}, 0, "a", 0}, {[]int64{1}, 1, "a", 0}, {[]int64{20}, 1, "a", 0}, {[]int64{20}, 20, "a", 0}, {[]int64{20}, 21, ".a", 0}, {[]int64{1}, 3, "..a", 0}, {[]int64{7}, 21, "..a", 0}, {[]int64{7}, 22, "...a", 0}, {[]int64{20}, 1000, strings.Repeat(".", 49) + "a", 0},
	// More slots than turns may have, and rounds that end at just MaxDays.
	{[]int64{1}, 120, strings.Repeat(".", 119) + "a", 0}, {[]int64{1}, 121, strings.Repeat(".", 120) + "a", 0}, {[]int64{1}, 200, strings.Repeat(".", 199) + "a", 0}, {[]int64{5}, 1000, strings.Repeat(".", 199) + "a", 0}, {[]int64{5}, 996, strings.Repeat(".", 199) + "a", 0},
	// Rounds behind some days.
	{[]int64{1, 1}, 0, "ba", 1}, {[]int64{20, 20}, 0, "ba", 1}, {[]int64{2, 1}, 0, "aba", 1}, {[]int64{1, 2}, 0, "ab", 1}, {[]int64{1, 1, 1}, 0, "cab", 2}, {times(8, 1), 0, "habcdefg", 7}, {times(8, 20), 0, "habcdefg", 7}, {[]int64{2, 1}, 3, "a.ab", 3}, {[]int64{1, 1}, 2, "ab", 3},
	{[]int64{1, 20}, 40, "b" + strings.Repeat(".b", 19) + "a", 41},
}

func TestTurnsOfRules(t *testing.T) {
	for _, c := range rounds6 {
		turns, ahead, code := runRule6(c.rates, c.x)
		wantTurns3(t, fmt.Sprint("turns of a rule for ", c.rates, c.x), turns, slots(c.text), code, impl.ErrNone)
		if ahead != c.ahead {
			t.Errorf("%d days ahead of the round for %v, %d, not %d", ahead, c.rates, c.x, c.ahead)
		}
	}
	// Rounds that end behind MaxDays, just behind it first, and rules by which heights never come again.
	behind := []struct {
		rates []int64
		x     int64
	}{
		{[]int64{1}, 201}, {[]int64{1}, 1000}, {[]int64{4}, 1000}, {[]int64{4}, 801}, {[]int64{3, 10}, 74}, {[]int64{7, 7, 13}, 121}, {[]int64{9, 7, 19, 6, 13, 13, 11}, 0}, {[]int64{14, 1, 6, 13, 18, 16, 1, 7}, 0}, {[]int64{10, 7, 5, 5, 15, 2, 9, 15}, 0},
		{[]int64{1, 1}, 1}, {[]int64{1, 2}, 1}, {[]int64{1, 20}, 20}, {times(8, 1), 1}, {times(8, 20), 140}, {times(8, 1), 1000},
	}
	for _, c := range behind {
		turns, ahead, code := runRule6(c.rates, c.x)
		wantCode(t, fmt.Sprint("turns of a rule for ", c.rates, c.x), code, impl.ErrLimit, len(turns) == 0 && ahead == 0)
	}
}

// runRule6 returns the turns of the rule of height for x of 0, and of the rule of speed with x for others.
func runRule6(rates []int64, x int64) ([]int64, int64, int64) {
	if x == 0 {
		return impl.TurnsByHeight(gardenOf(rates...))
	}
	return impl.TurnsBySpeed(gardenOf(rates...), x)
}

// TestTurnsOfRulesAgainstModel has rounds that end at just MaxDays, one day ahead of it and behind it,
// with several plants.
func TestTurnsOfRulesAgainstModel(t *testing.T) {
	ends, longer, codes := map[string]int{}, 0, map[int64]int{}
	check := func(rates []int64, x int64) {
		d := daysOf6(rates, x, 202)
		ahead, end := d.round6()
		want, wantErr := []int64(nil), int64(impl.ErrLimit)
		if end > 0 && end <= 200 {
			want, wantErr = d.cuts[ahead:end], impl.ErrNone
			if len(want) > 120 {
				longer++
			}
		}
		wantAhead := int64(ahead)
		if wantErr != impl.ErrNone {
			wantAhead = 0
		}
		turns, before, code := runRule6(rates, x)
		wantTurns3(t, fmt.Sprint("turns of a rule for ", rates, x), turns, want, code, wantErr)
		if before != wantAhead {
			t.Errorf("%d days ahead of the round for %v, %d, not %d", before, rates, x, wantAhead)
		}
		ends[fmt.Sprint(end, x > 0)]++
		codes[wantErr]++
	}
	for _, rates := range [][]int64{{13, 11, 17, 18, 12, 6, 3}, {8, 18, 19, 12, 13, 10, 20}, {16, 5, 6, 7, 16, 9, 6, 11}, {14, 1, 6, 13, 18, 16, 1, 7}, {9, 7, 19, 6, 13, 13, 11}, {9, 15, 19, 9, 7, 19, 12}, {17, 3, 18, 16, 14, 4, 20}, {5, 8, 4, 5, 11, 3, 20}, {17, 17, 3, 2, 16, 11}, {18, 14, 7, 3, 14, 20, 11}} {
		check(rates, 0)
	}
	check([]int64{7, 17, 10, 18}, 104)
	check([]int64{11, 14, 14}, 242)
	check([]int64{12, 6, 5}, 106)
	check([]int64{3, 10}, 74)
	check([]int64{19, 6}, 149)
	check([]int64{10, 6}, 104)
	check([]int64{9, 3, 4, 7}, 53)
	for _, end := range []string{"200 false", "201 false", "199 false", "202 false", "200 true", "201 true", "199 true", "202 true"} {
		if ends[end] == 0 {
			t.Errorf("no round ends at %s", end)
		}
	}
	numbers := rand.New(rand.NewSource(64))
	eachRates6(func(rates []int64) {
		check(rates, 0)
		check(rates, 1+numbers.Int63n(2*sum6(rates)))
	})
	check([]int64{20}, 1000)
	check([]int64{4}, 800)
	if codes[impl.ErrNone] < 800 || codes[impl.ErrLimit] < 200 || longer == 0 {
		t.Errorf("only these codes: %v, and %d rounds are too long for turns", codes, longer)
	}
}

func TestHighestByHeight(t *testing.T) {
	cases := []struct {
		rates      []int64
		days, want int64
	}{
		{[]int64{2, 1}, 4, 4}, {[]int64{2, 1}, 3, 3}, {[]int64{2, 1}, 2, 2}, {[]int64{2, 1}, 1, 2}, {[]int64{2, 1}, 200, 4}, {[]int64{1}, 1, 1}, {[]int64{1}, 200, 1}, {[]int64{20}, 200, 20},
		{times(8, 20), 1, 20}, {times(8, 20), 7, 140}, {times(8, 20), 8, 160}, {times(8, 20), 200, 160}, {[]int64{1, 1}, 1, 1}, {[]int64{1, 1}, 2, 2}, {[]int64{1, 2}, 2, 2}, {[]int64{1, 2}, 3, 4}, {[]int64{1, 20}, 1, 20}, {[]int64{1, 2, 3, 4, 5, 6, 7, 8}, 1, 8},
	}
	for _, c := range cases {
		if highest, code := impl.HighestByHeight(gardenOf(c.rates...), c.days); highest != c.want || code != impl.ErrNone {
			t.Errorf("HighestByHeight(%v, %d) = %d, %d, not %d", c.rates, c.days, highest, code, c.want)
		}
	}
	at := int64(0)
	eachRates6(func(rates []int64) {
		d := daysOf6(rates, 0, 200)
		at++
		for _, days := range []int64{1, 2, 3, 1 + at%200, 200} {
			if highest, code := impl.HighestByHeight(gardenOf(rates...), days); highest != d.most[days] || code != impl.ErrNone {
				t.Errorf("HighestByHeight(%v, %d) = %d, %d, not %d", rates, days, highest, code, d.most[days])
			}
		}
	})
}

func TestTasksOfGarden(t *testing.T) {
	cases := []struct {
		rates   []int64
		m       int64
		want    []int64
		wantErr int64
	}{
		{[]int64{2, 1}, 4, []int64{2, 4}, 0}, {[]int64{2, 1}, 3, []int64{1, 3}, 0}, {[]int64{2, 1}, 5, []int64{2, 5}, 0}, {[]int64{5, 3, 2, 1}, 15, []int64{3, 5, 7, 15}, 0}, {[]int64{5, 5}, 14, []int64{2, 2}, 0}, {[]int64{1, 20}, 20, []int64{20, 1}, 0}, {[]int64{7, 8, 9}, 9, []int64{1, 1, 1}, 0}, {times(8, 20), 160, times(8, 8), 0},
		// Just the greatest rate, and one less.
		{[]int64{1}, 1, []int64{1}, 0}, {[]int64{1}, 0, nil, impl.ErrRange}, {[]int64{20}, 20, []int64{1}, 0}, {[]int64{20}, 19, nil, impl.ErrRange}, {[]int64{1, 20}, 19, nil, impl.ErrRange}, {[]int64{20, 1}, 1, nil, impl.ErrRange}, {[]int64{3, 5, 4}, 5, []int64{1, 1, 1}, 0}, {[]int64{3, 5, 4}, 4, nil, impl.ErrRange},
		// Gaps of just MaxGap, and one more.
		{[]int64{1}, 40, []int64{40}, 0}, {[]int64{1}, 41, nil, impl.ErrNotFound}, {[]int64{20}, 800, []int64{40}, 0}, {[]int64{20}, 819, []int64{40}, 0}, {[]int64{20}, 820, nil, impl.ErrNotFound}, {[]int64{2, 3}, 81, []int64{40, 27}, 0}, {[]int64{2, 3}, 82, nil, impl.ErrNotFound}, {[]int64{3, 2}, 82, nil, impl.ErrNotFound}, {times(8, 20), 819, times(8, 40), 0}, {append(times(7, 20), 19), 780, nil, impl.ErrNotFound}, {append(times(7, 20), 19), 779, nil, impl.ErrNotFound}, {append(times(7, 20), 19), 778, append(times(7, 38), 40), 0},
		// MaxTower, and one more.
		{[]int64{20}, 1000, nil, impl.ErrNotFound}, {[]int64{20}, 1001, nil, impl.ErrRange}, {[]int64{1}, 1000, nil, impl.ErrNotFound}, {[]int64{1}, 1001, nil, impl.ErrRange}, {times(8, 20), 1000, nil, impl.ErrNotFound}, {times(8, 20), 1001, nil, impl.ErrRange},
	}
	for _, c := range cases {
		tasks, code := impl.TasksOfGarden(gardenOf(c.rates...), c.m)
		wantTurns3(t, fmt.Sprint("TasksOfGarden", c.rates, c.m), tasks.Gaps, c.want, code, c.wantErr)
	}
	eachRates6(func(rates []int64) {
		most := slices.Max(rates)
		for _, m := range []int64{most - 1, most, most + 1, 2*most - 1, sum6(rates), 40*slices.Min(rates) - 1, 41*slices.Min(rates) - 1, 41 * slices.Min(rates), 1000, 1001} {
			want, wantErr := gapsFor6(rates, m), int64(impl.ErrNone)
			if m < most || m > 1000 {
				want, wantErr = nil, impl.ErrRange
			} else if slices.Max(want) > 40 {
				want, wantErr = nil, impl.ErrNotFound
			}
			tasks, code := impl.TasksOfGarden(gardenOf(rates...), m)
			wantTurns3(t, fmt.Sprint("TasksOfGarden", rates, m), tasks.Gaps, want, code, wantErr)
		}
	})
}

func TestLeastTower(t *testing.T) {
	cases := []struct {
		rates   []int64
		want    int64
		wantErr int64
	}{
		// The sum of the rates, and more.
		{[]int64{1}, 1, 0}, {[]int64{20}, 20, 0}, {[]int64{1, 1}, 2, 0}, {[]int64{20, 20}, 40, 0}, {[]int64{3, 3, 3}, 9, 0}, {[]int64{2, 1, 1}, 4, 0}, {[]int64{1, 1, 2}, 4, 0}, {[]int64{20, 10, 5, 5}, 40, 0}, {[]int64{5, 20, 5, 10}, 40, 0}, {[]int64{2, 2, 2, 3, 3}, 12, 0}, {[]int64{2, 1}, 4, 0}, {[]int64{1, 2}, 4, 0}, {[]int64{1, 2, 3}, 8, 0}, {[]int64{8, 4, 2, 1}, 16, 0}, {[]int64{5, 3, 2, 1}, 15, 0}, {[]int64{13, 13, 13, 13, 20}, 78, 0}, {[]int64{19, 1}, 38, 0},
		// Tasks with more than MaxTaskStates states for heights beyond the tower only, and with many ones at it.
		{[]int64{1, 1, 2, 3}, 8, 0}, {times(5, 1), 5, 0}, {times(5, 20), 100, 0}, {[]int64{1, 5, 5, 19}, 38, 0},
		// Just MaxTaskStates states at the tower, more at the sum of the rates, and more on the way from it.
		{[]int64{2, 16, 16, 20}, 80, 0}, {[]int64{20, 16, 2, 16}, 80, 0}, {[]int64{4, 5, 7, 19, 20}, 0, impl.ErrLimit}, {[]int64{7, 9, 9, 20, 20}, 0, impl.ErrLimit}, {times(6, 1), 0, impl.ErrLimit}, {times(6, 20), 0, impl.ErrLimit}, {times(8, 1), 0, impl.ErrLimit}, {times(8, 20), 0, impl.ErrLimit}, {[]int64{2, 1, 1, 1, 1, 1}, 0, impl.ErrLimit},
		// Gaps of just MaxGap at the tower, greater ones at the sum of the rates, and on the way from it.
		{[]int64{1, 20}, 40, 0}, {[]int64{20, 1, 1}, 40, 0}, {[]int64{1, 20, 20}, 0, impl.ErrLimit}, {[]int64{20, 20, 1}, 0, impl.ErrLimit}, {[]int64{1, 19, 20}, 0, impl.ErrLimit}, {[]int64{20, 19, 1}, 0, impl.ErrLimit},
	}
	for _, c := range cases {
		if tower, code := impl.LeastTower(gardenOf(c.rates...)); tower != c.want || code != c.wantErr {
			t.Errorf("LeastTower(%v) = %d, %d, not %d, %d", c.rates, tower, code, c.want, c.wantErr)
		}
	}
	codes := map[int64]int{}
	check := func(rates []int64) {
		want, wantErr := leastTower6(rates)
		codes[wantErr]++
		if tower, code := impl.LeastTower(gardenOf(rates...)); tower != want || code != wantErr {
			t.Errorf("LeastTower(%v) = %d, %d, not %d, %d", rates, tower, code, want, wantErr)
		}
	}
	fewRates6([3]int64{20, 20, 4}, check)
	for _, rates := range edgeRates6 {
		check(rates)
	}
	for _, rates := range [][]int64{{1, 1, 2, 3}, {2, 16, 16, 20}, {4, 5, 7, 19, 20}, {7, 9, 9, 20, 20}, {6, 11, 13, 16, 20}, {2, 11, 15, 15, 16}, {9, 14, 16}, {2, 2, 7, 19}, {2, 4, 19, 19}} {
		check(rates)
	}
	if codes[impl.ErrNone] < 400 || codes[impl.ErrLimit] < 10 {
		t.Errorf("only these codes: %v", codes)
	}
}

// TestLeastTowerOfTurns goes through all turns of few slots, without idle ones: none has a tower that is
// less than the least one, and some have just this.
func TestLeastTowerOfTurns(t *testing.T) {
	turnsOf := map[int][][]int64{}
	for k := 1; k <= 3; k++ {
		shortTurns([]int{0, 2, 9, 7}[k], int64(k), func(turns []int64) {
			if !slices.Contains(turns, -1) {
				turnsOf[k] = append(turnsOf[k], turns)
			}
		})
	}
	fewRates6([3]int64{20, 20, 5}, func(rates []int64) {
		least := int64(0)
		for _, turns := range turnsOf[len(rates)] {
			if tower := tower6(rates, turns); tower > 0 && (least == 0 || tower < least) {
				least = tower
			}
		}
		if tower, code := impl.LeastTower(gardenOf(rates...)); tower != least || code != impl.ErrNone {
			t.Errorf("LeastTower(%v) = %d, %d, but the least one of turns is %d", rates, tower, code, least)
		}
	})
}

// TestPromise6: towers are at least the sum of the rates, and least towers are reached.
func TestPromise6(t *testing.T) {
	eachTurns6(func(rates, turns []int64) {
		g := gardenOf(rates...)
		tower, code := impl.TowerOf(g, turns)
		sum, also := impl.SumOfRates(g)
		if code == impl.ErrNone && (tower < sum || also != impl.ErrNone) {
			t.Errorf("TowerOf(%v, %v) = %d, but the sum of the rates is %d, %d", rates, turns, tower, sum, also)
		}
		least, also := impl.LeastTower(g)
		if code == impl.ErrNone && also == impl.ErrNone && tower < least {
			t.Errorf("TowerOf(%v, %v) = %d, but the least tower is %d", rates, turns, tower, least)
		}
	})
	reached, longer := 0, 0
	eachRates6(func(rates []int64) {
		g := gardenOf(rates...)
		least, code := impl.LeastTower(g)
		if code != impl.ErrNone {
			return
		}
		tasks, a := impl.TasksOfGarden(g, least)
		_, round, b := impl.LeastPlay(tasks)
		if a != impl.ErrNone || b != impl.ErrNone || tower6(rates, round) != least || least < sum6(rates) {
			t.Errorf("LeastTower(%v) = %d is not that of the round %v, %d, %d", rates, least, round, a, b)
		}
		if len(round) > 120 {
			longer++
			return
		}
		reached++
		if tower, code := impl.TowerOf(g, round); tower != least || code != impl.ErrNone {
			t.Errorf("LeastTower(%v) = %d, but the tower of %v is %d, %d", rates, least, round, tower, code)
		}
	})
	if reached < 500 {
		t.Errorf("only %d least towers are reached, %d by more slots than turns have", reached, longer)
	}
}

// TestPromise14: least towers of gardens are those for whose tasks there are turns that serve. For the
// tasks of lesser heights there are none.
func TestPromise14(t *testing.T) {
	served, lesser, refused := 0, 0, 0
	eachRates6(func(rates []int64) {
		g := gardenOf(rates...)
		least, code := impl.LeastTower(g)
		for m := slices.Max(rates); m <= 1000; m++ {
			tasks, a := impl.TasksOfGarden(g, m)
			can, b := impl.CanServe(tasks)
			if a != impl.ErrNone || b != impl.ErrNone {
				break // for all greater heights, too
			}
			if want := code == impl.ErrNone && m >= least; can != want {
				t.Errorf("CanServe of %v, for the height %d of %v, is %v, but LeastTower is %d, %d", tasks.Gaps, m, rates, can, least, code)
			}
			if !can {
				lesser++
			}
		}
		if code != impl.ErrNone {
			refused++
			return
		}
		tasks, _ := impl.TasksOfGarden(g, least)
		fewest, code := impl.FewestSlots(tasks)
		if fewest < 1 || fewest > 120 || code != impl.ErrNone {
			t.Errorf("FewestSlots of %v, for the height %d of %v, is %d, %d", tasks.Gaps, least, rates, fewest, code)
		}
		if _, round, _ := impl.LeastPlay(tasks); len(round) <= 120 {
			served++
			if serve, code := impl.DoServe(tasks, round); !serve || code != impl.ErrNone {
				t.Errorf("%v do not serve %v, for the height %d of %v: %d", round, tasks.Gaps, least, rates, code)
			}
		}
	})
	if served < 500 || lesser < 2000 || refused < 200 {
		t.Errorf("only %d gardens with turns that serve, %d lesser heights, %d gardens without least towers", served, lesser, refused)
	}
}

// TestTurnsThatServe: turns serve the tasks of a garden for a height just if their tower is at most this.
func TestTurnsThatServe(t *testing.T) {
	serving, others := 0, 0
	eachTurns6(func(rates, turns []int64) {
		g := gardenOf(rates...)
		tower, code := impl.TowerOf(g, turns)
		for _, m := range []int64{slices.Max(rates), sum6(rates), tower - 1, tower, tower + 1, 40 * slices.Min(rates)} {
			tasks, none := impl.TasksOfGarden(g, m)
			if none != impl.ErrNone {
				continue
			}
			serve, also := impl.DoServe(tasks, turns)
			if want := code == impl.ErrNone && tower <= m; serve != want || also != impl.ErrNone {
				t.Errorf("DoServe of %v, for the height %d of %v, by %v is %v, %d, but their tower is %d, %d", tasks.Gaps, m, rates, turns, serve, also, tower, code)
			}
			if serve {
				serving++
			} else {
				others++
			}
		}
	})
	if serving < 500 || others < 500 {
		t.Errorf("only %d turns serve, %d do not", serving, others)
	}
}

// TestRoundsOfRules: turns of rules repeat their rounds. Day by day, with the cut that the rule tells for
// the heights of this day, the cuts behind the days ahead are the turns again and again, and the heights
// behind them come again.
func TestRoundsOfRules(t *testing.T) {
	rounds := 0
	check := func(rates []int64, x int64) {
		turns, ahead, code := runRule6(rates, x)
		if code != impl.ErrNone {
			return
		}
		rounds++
		g, heights, start := gardenOf(rates...), times(len(rates), 0), times(len(rates), 0)
		for day := range ahead + 2*int64(len(turns)) {
			heights, _ = impl.GrowDays(g, heights, 1)
			cut, _ := impl.CutByHeight(g, heights)
			if x > 0 {
				cut, _ = impl.CutBySpeed(g, heights, x)
			}
			if day >= ahead && cut != turns[(day-ahead)%int64(len(turns))] {
				t.Fatalf("the rule for %v, %d cuts %d behind %d days, but its turns are %v behind %d days", rates, x, cut, day, turns, ahead)
			}
			if cut >= 0 {
				heights[cut] = 0
			}
			if day+1 == ahead {
				start = slices.Clone(heights)
			}
			if behind := day + 1 - ahead; behind > 0 && (behind%int64(len(turns)) == 0) != slices.Equal(heights, start) {
				t.Fatalf("the rule for %v, %d leads to %v behind %d days, but to %v behind the %d days ahead", rates, x, heights, day+1, start, ahead)
			}
		}
	}
	numbers := rand.New(rand.NewSource(65))
	eachRates6(func(rates []int64) {
		check(rates, 0)
		check(rates, 1+numbers.Int63n(2*sum6(rates)))
	})
	if rounds < 800 {
		t.Errorf("only %d rounds", rounds)
	}
}

// call6 runs a function of the chapter on a garden with a list of numbers, heights or turns, and a
// number, days, x or m; it reports whether all other results are zero values.
type call6 struct {
	name string
	run  func(g impl.Garden, list []int64, n int64) (bool, int64)
}

// calls6 returns the functions that take no more than a garden, those that take heights, those that
// take turns, and those that take a number.
func calls6() (ofGarden, ofHeights, ofTurns, ofNumber []call6) {
	grow := call6{"GrowDays", func(g impl.Garden, list []int64, n int64) (bool, int64) {
		a, code := impl.GrowDays(g, list, n)
		return len(a) == 0, code
	}}
	high := call6{"CutByHeight", func(g impl.Garden, list []int64, n int64) (bool, int64) {
		a, code := impl.CutByHeight(g, list)
		return a == 0, code
	}}
	fast := call6{"CutBySpeed", func(g impl.Garden, list []int64, n int64) (bool, int64) {
		a, code := impl.CutBySpeed(g, list, n)
		return a == 0, code
	}}
	behind := call6{"HeightsBehind", func(g impl.Garden, list []int64, n int64) (bool, int64) {
		a, code := impl.HeightsBehind(g, list, n)
		return len(a) == 0, code
	}}
	tower := call6{"TowerOf", func(g impl.Garden, list []int64, n int64) (bool, int64) {
		a, code := impl.TowerOf(g, list)
		return a == 0, code
	}}
	byHeight := call6{"TurnsByHeight", func(g impl.Garden, list []int64, n int64) (bool, int64) {
		a, b, code := impl.TurnsByHeight(g)
		return len(a) == 0 && b == 0, code
	}}
	bySpeed := call6{"TurnsBySpeed", func(g impl.Garden, list []int64, n int64) (bool, int64) {
		a, b, code := impl.TurnsBySpeed(g, n)
		return len(a) == 0 && b == 0, code
	}}
	highest := call6{"HighestByHeight", func(g impl.Garden, list []int64, n int64) (bool, int64) {
		a, code := impl.HighestByHeight(g, n)
		return a == 0, code
	}}
	sum := call6{"SumOfRates", func(g impl.Garden, list []int64, n int64) (bool, int64) {
		a, code := impl.SumOfRates(g)
		return a == 0, code
	}}
	tasks := call6{"TasksOfGarden", func(g impl.Garden, list []int64, n int64) (bool, int64) {
		a, code := impl.TasksOfGarden(g, n)
		return len(a.Gaps) == 0, code
	}}
	least := call6{"LeastTower", func(g impl.Garden, list []int64, n int64) (bool, int64) {
		a, code := impl.LeastTower(g)
		return a == 0, code
	}}
	return []call6{byHeight, sum, least}, []call6{grow, high, fast}, []call6{behind, tower}, []call6{grow, fast, behind, bySpeed, highest, tasks}
}

// badNumbers6 returns numbers that the functions do not take, for a garden with these rates.
func badNumbers6(name string, rates []int64) []int64 {
	bad := append([]int64{-1, -2, -200, -1000}, farNumbers...)
	switch name {
	case "GrowDays", "HeightsBehind":
		return append(bad, 201, 202, 256, 1<<16)
	case "HighestByHeight":
		return append(bad, 0, 201, 202, 256, 1<<16)
	case "TasksOfGarden":
		return append(bad, 0, slices.Max(rates)-1, 1001, 1002, 1<<16)
	}
	return append(bad, 0, 1001, 1002, 1<<16)
}

// badHeights6 returns lists that are no heights of k plants.
func badHeights6(k int) [][]int64 {
	bad := [][]int64{nil, {}, times(k-1, 5), times(k+1, 5), times(k+1, 0), times(2*k, 100000), times(1000, 1)}
	for at := range k {
		for _, height := range append([]int64{-1, -2, -100000, 100001, 100002, 1 << 17}, farNumbers...) {
			heights := times(k, 5)
			heights[at] = height
			bad = append(bad, heights)
		}
	}
	return bad
}

// gardens6 are gardens for which some functions also have other errors: rounds that end too late, gaps
// that are too great, and too many states.
var gardens6 = [][]int64{{1}, {20}, {2, 1}, {1, 20, 20}, {9, 7, 19, 6, 13, 13, 11}, times(8, 1), times(8, 20)}

func TestErrors6(t *testing.T) {
	ofGarden, ofHeights, ofTurns, ofNumber := calls6()
	for _, bad := range badGardens6() {
		for _, c := range slices.Concat(ofGarden, ofHeights, ofTurns, ofNumber) {
			for _, list := range [][]int64{{0}, {0, 1}, nil, times(len(bad.Rates), 0), times(121, -2), {-1}, {100001, -1}, {9}} {
				for _, n := range append([]int64{1, 20, 0, -1, 200, 201, 1000, 1001}, farNumbers...) {
					zero, code := c.run(bad, list, n) // ahead of lists and numbers
					wantCode(t, fmt.Sprint(c.name, bad.Rates, list, n), code, impl.ErrInvalid, zero)
				}
			}
		}
	}
}

// TestErrorsOfNumbers6 has lists and numbers that are not as told, one by one and together.
func TestErrorsOfNumbers6(t *testing.T) {
	_, ofHeights, ofTurns, ofNumber := calls6()
	want := func(c call6, rates, list []int64, n int64) {
		t.Helper()
		zero, code := c.run(gardenOf(rates...), list, n)
		wantCode(t, fmt.Sprint(c.name, rates, list, n), code, impl.ErrRange, zero)
	}
	for _, rates := range gardens6 {
		k := len(rates)
		for _, c := range ofHeights {
			for _, bad := range badHeights6(k) {
				for _, n := range []int64{1, 200, -1, 1001} {
					want(c, rates, bad, n)
				}
			}
		}
		for _, c := range ofTurns {
			// Also turns in which plants have no turn, which comes behind them.
			for _, bad := range append(badTurns1(int64(k)), append(times(120, 0), 0), append(times(k, -1), int64(k))) {
				for _, n := range []int64{0, 200, -1, 201} {
					want(c, rates, bad, n)
				}
			}
		}
		for _, c := range ofNumber {
			for _, n := range badNumbers6(c.name, rates) {
				want(c, rates, times(k, 0), n)
			}
		}
	}
}

// TestLimits6 has the greatest and the least arguments that are taken.
func TestLimits6(t *testing.T) {
	_, _, ofTurns, ofNumber := calls6()
	for _, rates := range gardens6 {
		g, k := gardenOf(rates...), len(rates)
		for _, height := range []int64{0, 100000} {
			heights := times(k, height)
			for _, days := range []int64{0, 200} {
				if got, code := impl.GrowDays(g, heights, days); code != impl.ErrNone || got[k-1] != height+days*rates[k-1] {
					t.Errorf("GrowDays(%v, %v, %d) = %v, %d", rates, heights, days, got, code)
				}
			}
			for _, x := range []int64{1, 1000} {
				want := fastest6(rates, heights, x)
				if who, code := impl.CutBySpeed(g, heights, x); who != want || code != impl.ErrNone {
					t.Errorf("CutBySpeed(%v, %v, %d) = %d, %d, not %d", rates, heights, x, who, code, want)
				}
			}
		}
		for _, c := range ofTurns {
			var turns []int64
			for day := range 120 {
				turns = append(turns, int64(day%k))
			}
			for _, days := range []int64{0, 200} {
				if _, code := c.run(g, turns, days); code != impl.ErrNone {
					t.Errorf("%s of %v with MaxTurns slots and %d days: code %d", c.name, rates, days, code)
				}
			}
		}
		for _, c := range ofNumber {
			for _, n := range map[string][]int64{"HighestByHeight": {1, 200}, "TurnsBySpeed": {1, 1000}, "TasksOfGarden": {slices.Max(rates), 1000}}[c.name] {
				if _, code := c.run(g, nil, n); code == impl.ErrRange || code == impl.ErrInvalid {
					t.Errorf("%s of %v with %d: code %d", c.name, rates, n, code)
				}
			}
		}
	}
}

// TestMemory6 writes over results, and looks whether arguments, and what stands behind their ends, keep
// what they had. Behind no days the results have just the same heights as an argument.
func TestMemory6(t *testing.T) {
	ratesWere, heightsWere, turnsWere := []int64{3, 2, 1}, []int64{4, 0, 9}, []int64{0, 1, 0, 2, -1}
	rates, heights, turns := withSpare(ratesWere), withSpare(heightsWere), withSpare(turnsWere)
	g := impl.Garden{Rates: rates}
	calls := map[string]func() []int64{
		"GrowDays":              func() []int64 { y, _ := impl.GrowDays(g, heights, 7); return y },
		"GrowDays of none":      func() []int64 { y, _ := impl.GrowDays(g, heights, 0); return y },
		"HeightsBehind":         func() []int64 { y, _ := impl.HeightsBehind(g, turns, 8); return y },
		"HeightsBehind of none": func() []int64 { y, _ := impl.HeightsBehind(g, turns, 0); return y },
		"TurnsByHeight":         func() []int64 { y, n, _ := impl.TurnsByHeight(g); return append(y, n) },
		"TurnsBySpeed":          func() []int64 { y, n, _ := impl.TurnsBySpeed(g, 5); return append(y, n) },
		"TasksOfGarden":         func() []int64 { y, _ := impl.TasksOfGarden(g, 9); return y.Gaps },
		"the others": func() []int64 {
			impl.IsGarden(g)
			high, _ := impl.CutByHeight(g, heights)
			fast, _ := impl.CutBySpeed(g, heights, 4)
			tower, _ := impl.TowerOf(g, turns)
			highest, _ := impl.HighestByHeight(g, 9)
			sum, _ := impl.SumOfRates(g)
			least, _ := impl.LeastTower(g)
			return []int64{high, fast, tower, highest, sum, least}
		},
	}
	for name, call := range calls {
		first := call()
		kept := slices.Clone(first)
		overwrite(first)
		if len(kept) < 3 || !spareIsWhole(rates, ratesWere) || !spareIsWhole(heights, heightsWere) || !spareIsWhole(turns, turnsWere) {
			t.Fatalf("%s shares memory with an argument, or changes it", name)
		}
		if !slices.Equal(call(), kept) {
			t.Errorf("%s returns something else on its second call", name)
		}
	}
}
