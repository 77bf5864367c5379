package tests

import (
	"fmt"
	"math/rand"
	"runtime"
	"slices"
	"strings"
	"sync"
	"testing"

	"loop.example/g01404/impl"
)

// bits9 returns how many digits the roads of n places can have.
func bits9(n int64) int64 { return n * (n - 1) / 2 }

// near9 looks for the digit of two places by counting all digits.
func near9(g impl.Ground, i, j int64) bool {
	digits := g.Roads
	for b := int64(1); b < g.Places; b++ {
		for a := range b {
			if digits%2 == 1 && (a == i && b == j || a == j && b == i) {
				return true
			}
			digits /= 2
		}
	}
	return i == j
}

// ground9 returns the ground of n places with roads, each told by two places, as in "01 12".
func ground9(n int64, roads string) impl.Ground {
	g := impl.Ground{Places: n}
	power := int64(1)
	for b := range n {
		for a := range b {
			if strings.Contains(roads, fmt.Sprintf("%d%d", a, b)) {
				g.Roads += power
			}
			power *= 2
		}
	}
	return g
}

// all9 returns the ground of n places with all roads, none9 that without roads.
func all9(n int64) impl.Ground  { return impl.Ground{Places: n, Roads: 1<<bits9(n) - 1} }
func none9(n int64) impl.Ground { return impl.Ground{Places: n} }

// line9, ring9 and star9 are the grounds with these names.
func line9(n int64) impl.Ground {
	return ground9(n, "01 12 23 34 45")
}

func ring9(n int64) impl.Ground {
	return ground9(n, fmt.Sprintf("01 12 23 34 45 0%d", n-1))
}

func star9(n int64) impl.Ground {
	return ground9(n, "01 02 03 04 05")
}

// eachGround9 calls f with all grounds of n places, or, if these are many, with each step-th one and the last one.
func eachGround9(n, step int64, f func(g impl.Ground)) {
	last := all9(n).Roads
	for roads := int64(0); roads < last; roads += step {
		f(impl.Ground{Places: n, Roads: roads})
	}
	f(all9(n))
}

// distances9 shortens distances over each place in between, again and again.
func distances9(g impl.Ground) [][]int64 {
	const far = 100
	n := g.Places
	var d [][]int64
	for i := range n {
		row := times(int(n), far)
		for j := range n {
			if near9(g, i, j) {
				row[j] = 1
			}
		}
		row[i] = 0
		d = append(d, row)
	}
	for by := range n {
		for i := range n {
			for j := range n {
				d[i][j] = min(d[i][j], d[i][by]+d[by][j])
			}
		}
	}
	for _, row := range d {
		for j := range row {
			if row[j] == far {
				row[j] = -1
			}
		}
	}
	return d
}

// orders9 calls f with all orders of the places 1 to n - 1.
func orders9(n int64, f func(order []int64)) {
	var extend func(order []int64)
	extend = func(order []int64) {
		if int64(len(order)) == n-1 {
			f(order)
			return
		}
		for place := int64(1); place < n; place++ {
			if !slices.Contains(order, place) {
				extend(append(slices.Clone(order), place))
			}
		}
	}
	extend(nil)
}

// round9 returns the shortest round of a ground, by the order in which it comes to the places first, and a
// walk with this number of roads, -1 and none if it falls apart into parts.
func round9(g impl.Ground) (int64, []int64) {
	d := distances9(g)
	if slices.Contains(d[0], -1) {
		return -1, nil
	}
	least, best := int64(1000), []int64(nil)
	orders9(g.Places, func(order []int64) {
		roads, at := int64(0), int64(0)
		for _, place := range order {
			roads += d[at][place]
			at = place
		}
		if roads += d[at][0]; roads < least {
			least, best = roads, order
		}
	})
	walk, at := []int64(nil), int64(0)
	for _, to := range append(slices.Clone(best), 0) {
		for at != to {
			walk = append(walk, at)
			at = closer9(g, d, at, to)
		}
	}
	return least, walk
}

// closer9 returns a place near to one that has a distance less by one to another one.
func closer9(g impl.Ground, d [][]int64, at, to int64) int64 {
	for place := range g.Places {
		if near9(g, at, place) && d[place][to] == d[at][to]-1 {
			return place
		}
	}
	panic("no place is closer")
}

// route9 looks at each place of a route and the next one.
func route9(g impl.Ground, turns []int64) bool {
	for slot, place := range turns {
		next := who1(turns, slot+1)
		if place < 0 || next < 0 || !near9(g, place, next) {
			return false
		}
	}
	return true
}

// model9 has all states by a number each, and strikes out again and again those from which no move leads to
// a state that is left, till the safe ones are left.
type model9 struct {
	places, size int64
	gaps         []int64
	behind       [][]int64 // the state behind the move to each place, -1 if there is none
	left         []bool
}

func modelOf9(g impl.Ground, gaps []int64) *model9 {
	x := &model9{places: g.Places, gaps: gaps, size: states6(gaps)}
	var near [6][6]bool
	for i := range g.Places {
		for j := range g.Places {
			near[i][j] = near9(g, i, j)
		}
	}
	for n := range x.places * x.size {
		numbers, place := x.numbers(n), n/x.size
		row := times(int(x.places), -1)
		if numbers[place] == gaps[place] {
			for to := range x.places {
				if near[place][to] {
					row[to] = x.step(numbers, to)
				}
			}
		}
		x.behind, x.left = append(x.behind, row), append(x.left, numbers[place] == gaps[place])
	}
	for changed := true; changed; {
		changed = false
		for n := range x.left {
			if x.left[n] && x.least(int64(n)) < 0 {
				x.left[n], changed = false, true
			}
		}
	}
	return x
}

// numbers returns the numbers of a state.
func (x *model9) numbers(n int64) [6]int64 {
	var numbers [6]int64
	for i, gap := range x.gaps {
		numbers[i] = n%gap + 1
		n /= gap
	}
	return numbers
}

// step returns the state behind a move to a near place.
func (x *model9) step(numbers [6]int64, to int64) int64 {
	behind, unit := to*x.size, int64(1)
	for i, gap := range x.gaps {
		number := numbers[i] - 1
		if int64(i) == to {
			number = gap
		}
		if number == 0 {
			return -1
		}
		behind += (number - 1) * unit
		unit *= gap
	}
	return behind
}

// least returns the least place with a move to a state that is left, -1 for none.
func (x *model9) least(n int64) int {
	return slices.IndexFunc(x.behind[n], func(behind int64) bool { return behind >= 0 && x.left[behind] })
}

// safe returns the number of the states that are left.
func (x *model9) safe() int64 {
	count := int64(0)
	for _, left := range x.left {
		if left {
			count++
		}
	}
	return count
}

// route returns the first route, and how many states are ahead of it, no route if there is none.
func (x *model9) route() ([]int64, int) {
	for place := range x.places {
		if n := place*x.size + x.size - 1; x.left[n] {
			return x.routeFrom(n)
		}
	}
	return nil, 0
}

func (x *model9) routeFrom(n int64) ([]int64, int) {
	var route []int64
	came := map[int64]int{}
	for {
		if at, again := came[n]; again {
			return route[at:], at
		}
		came[n] = len(route)
		route = append(route, n/x.size)
		n = x.behind[n][x.least(n)]
	}
}

// edgeWatches9 are grounds and gaps at limits, with routes of all kinds.
var edgeWatches9 = []struct {
	g    impl.Ground
	gaps []int64
}{
	{none9(1), []int64{1}}, {none9(1), []int64{40}}, {none9(2), []int64{40, 40}}, {line9(2), []int64{40, 40}}, {line9(2), []int64{1, 40}}, {line9(2), []int64{40, 1}}, {none9(6), times(6, 3)}, {all9(6), times(6, 3)}, {all9(6), []int64{2, 3, 4, 5, 6, 4}}, {all9(6), []int64{2, 10, 5, 5, 2, 3}}, {all9(6), []int64{3, 3, 3, 5, 5, 4}}, {star9(6), []int64{2, 4, 4, 4, 4, 4}}, {star9(5), []int64{2, 8, 8, 8, 3}}, {star9(5), []int64{2, 6, 6, 6, 6}}, {star9(4), []int64{2, 6, 6, 6}}, {star9(4), []int64{2, 6, 6, 5}}, {star9(4), []int64{6, 6, 6, 6}},
	{ring9(5), times(5, 5)}, {ring9(5), []int64{5, 5, 5, 5, 4}}, {ring9(6), []int64{6, 6, 5, 4, 2, 2}}, {ring9(4), times(4, 8)}, {ring9(3), []int64{3, 3, 3}}, {ring9(3), []int64{3, 2, 3}}, {line9(3), []int64{4, 2, 4}}, {line9(3), []int64{3, 2, 4}}, {line9(3), []int64{40, 2, 40}}, {line9(3), []int64{40, 40, 4}}, {line9(4), []int64{6, 4, 4, 6}}, {line9(4), []int64{6, 4, 3, 6}}, {line9(4), []int64{8, 8, 8, 8}}, {line9(5), []int64{8, 6, 4, 6, 2}}, {all9(5), []int64{4, 4, 6, 6, 6}}, {all9(5), []int64{3, 6, 6, 6, 6}}, {all9(5), []int64{6, 6, 6, 4, 4}}, {all9(5), []int64{5, 5, 5, 5, 6}}, {ring9(5), []int64{6, 5, 5, 5, 5}}, {ground9(5, "01 12 13 23 34 04"), times(5, 5)},
	// A place that is not the first one has the gap 1, and nobody can leave it.
	{all9(3), []int64{40, 1, 40}}, {all9(4), []int64{10, 10, 10, 1}}, {ground9(4, "01 23"), []int64{4, 4, 4, 4}}, {ground9(5, "01 12 02 34"), []int64{5, 5, 5, 5, 5}}, {ground9(6, "01 12 02 34 45 35"), times(6, 3)}, {ground9(4, "12 13 23"), []int64{9, 3, 3, 3}},
	// Routes of 119, 120, 121 and more slots.
	{all9(3), []int64{2, 11, 30}}, {all9(3), []int64{2, 11, 40}}, {all9(3), []int64{2, 12, 40}}, {all9(3), []int64{2, 15, 40}}, {all9(4), []int64{7, 31, 2, 11}}, {all9(4), []int64{5, 21, 3, 11}}, {all9(4), []int64{2, 11, 8, 25}}, {ground9(4, "01 02 12 03 23"), []int64{6, 12, 6, 7}}, {all9(3), []int64{2, 14, 25}}, {all9(3), []int64{3, 28, 29}},
	// Products of just MaxWatched.
	{all9(4), []int64{40, 25, 5, 1}}, {all9(4), []int64{25, 40, 5, 1}}, {all9(5), []int64{10, 10, 10, 2, 2}}, {star9(5), []int64{2, 10, 10, 10, 2}}, {star9(4), []int64{5, 10, 10, 10}}, {ring9(4), []int64{10, 5, 10, 10}}, {all9(4), []int64{20, 25, 5, 2}},
}

// eachWatch9 calls f with grounds and gaps: all of few places with small gaps, those at limits, and others of
// up to MaxPlaces places, the same ones on each run.
func eachWatch9(f func(g impl.Ground, gaps []int64)) {
	most := []int64{0, 40, 7, 4}
	for n := int64(1); n <= 3; n++ {
		eachGround9(n, 1, func(g impl.Ground) {
			gaps := times(int(n), 1)
			for more := true; more; {
				f(g, slices.Clone(gaps))
				more = false
				for i := range gaps {
					if gaps[i]++; gaps[i] <= most[n] {
						more = true
						break
					}
					gaps[i] = 1
				}
			}
		})
	}
	for _, c := range edgeWatches9 {
		f(c.g, c.gaps)
	}
	numbers := rand.New(rand.NewSource(9))
	for range 2500 {
		someWatch9(numbers, f)
	}
}

// someWatch9 calls f with a ground and gaps that have few states, and many roads.
func someWatch9(numbers *rand.Rand, f func(g impl.Ground, gaps []int64)) {
	n := 2 + numbers.Int63n(5)
	g := impl.Ground{Places: n, Roads: numbers.Int63n(1<<bits9(n)) | numbers.Int63n(1<<bits9(n))}
	gaps, product := []int64(nil), n
	for range n {
		gap := 1 + numbers.Int63n(min(14, max(1, 6000/product)))
		gaps, product = append(gaps, gap), product*gap
	}
	numbers.Shuffle(len(gaps), func(i, j int) { gaps[i], gaps[j] = gaps[j], gaps[i] })
	f(g, gaps)
}

func TestConstants9(t *testing.T) {
	if impl.MaxPlaces != 6 || impl.MaxWatched != 20000 {
		t.Errorf("MaxPlaces = %d, MaxWatched = %d", impl.MaxPlaces, impl.MaxWatched)
	}
}

// badGrounds9 are no grounds: too few and too many places, and roads below 0 and beyond the last place.
func badGrounds9() []impl.Ground {
	var bad []impl.Ground
	for _, n := range badCounts8(6) {
		for _, roads := range []int64{0, 1, 3, 32767, -1} {
			bad = append(bad, impl.Ground{Places: n, Roads: roads})
		}
	}
	for n := int64(1); n <= 6; n++ {
		beyond := int64(1) << bits9(n)
		for _, roads := range append([]int64{-1, -2, -beyond, -32768, beyond, beyond + 1, 2*beyond - 1, 2 * beyond, beyond << 6, beyond<<6 - 1, beyond << 8, beyond << 32, beyond<<32 + 1, 1 << 62}, farNumbers...) {
			bad = append(bad, impl.Ground{Places: n, Roads: roads})
		}
	}
	return bad
}

func TestIsGround(t *testing.T) {
	for n := int64(1); n <= 6; n++ {
		for roads := int64(-300); roads < 1<<bits9(n)+300; roads++ {
			want := roads >= 0 && roads < 1<<bits9(n)
			if yes := impl.IsGround(impl.Ground{Places: n, Roads: roads}); yes != want {
				t.Errorf("IsGround(%d, %d) = %v", n, roads, yes)
			}
		}
	}
	for _, bad := range badGrounds9() {
		if impl.IsGround(bad) {
			t.Errorf("IsGround(%v) = true", bad)
		}
	}
}

func TestGroundsWithNames(t *testing.T) {
	lines := []int64{0, 1, 5, 37, 549, 16933}
	rings := []int64{0, 0, 7, 45, 613, 17957}
	stars := []int64{0, 1, 3, 11, 75, 1099}
	want := func(name string, n int64, roads int64, f func(n int64) (impl.Ground, int64), model impl.Ground) {
		t.Helper()
		g, code := f(n)
		if g != (impl.Ground{Places: n, Roads: roads}) || g != model || code != impl.ErrNone || !impl.IsGround(g) {
			t.Errorf("%s(%d) = %v, %d, not %v", name, n, g, code, model)
		}
	}
	for n := int64(1); n <= 6; n++ {
		want("LineGround", n, lines[n-1], impl.LineGround, line9(n))
		want("StarGround", n, stars[n-1], impl.StarGround, star9(n))
		if n >= 3 {
			want("RingGround", n, rings[n-1], impl.RingGround, ring9(n))
		}
	}
	for _, bad := range badCounts8(6) {
		line, a := impl.LineGround(bad)
		ring, b := impl.RingGround(bad)
		star, c := impl.StarGround(bad)
		wantCode(t, fmt.Sprint("LineGround ", bad), a, impl.ErrRange, line == impl.Ground{})
		wantCode(t, fmt.Sprint("RingGround ", bad), b, impl.ErrRange, ring == impl.Ground{})
		wantCode(t, fmt.Sprint("StarGround ", bad), c, impl.ErrRange, star == impl.Ground{})
	}
	for _, few := range []int64{1, 2} {
		ring, code := impl.RingGround(few)
		wantCode(t, fmt.Sprint("RingGround ", few), code, impl.ErrRange, ring == impl.Ground{})
	}
}

func TestAreNear(t *testing.T) {
	cases := []struct {
		g    impl.Ground
		i, j int64
		want bool
	}{
		{none9(1), 0, 0, true}, {none9(6), 5, 5, true}, {none9(6), 4, 5, false}, {all9(6), 0, 5, true}, {all9(6), 5, 0, true}, {line9(3), 0, 2, false}, {line9(3), 1, 2, true}, {line9(3), 2, 1, true}, {ring9(3), 0, 2, true}, {ring9(6), 5, 0, true}, {ring9(6), 5, 1, false}, {star9(6), 0, 5, true}, {star9(6), 4, 5, false}, {ground9(6, "45"), 4, 5, true}, {ground9(6, "45"), 5, 4, true}, {ground9(6, "45"), 3, 5, false}, {impl.Ground{Places: 6, Roads: 1 << 14}, 4, 5, true}, {impl.Ground{Places: 6, Roads: 1 << 13}, 3, 5, true}, {impl.Ground{Places: 6, Roads: 1 << 13}, 4, 5, false}, {impl.Ground{Places: 4, Roads: 8}, 3, 0, true}, {impl.Ground{Places: 4, Roads: 8}, 3, 1, false},
	}
	for _, c := range cases {
		if near, code := impl.AreNear(c.g, c.i, c.j); near != c.want || code != impl.ErrNone {
			t.Errorf("AreNear(%v, %d, %d) = %v, %d", c.g, c.i, c.j, near, code)
		}
	}
	for n, step := range []int64{1, 1, 1, 1, 1, 1, 11} {
		if n == 0 {
			continue
		}
		eachGround9(int64(n), step, func(g impl.Ground) {
			for i := range g.Places {
				for j := range g.Places {
					if near, code := impl.AreNear(g, i, j); near != near9(g, i, j) || code != impl.ErrNone {
						t.Errorf("AreNear(%v, %d, %d) = %v, %d", g, i, j, near, code)
					}
				}
			}
		})
	}
}

func TestDistancesFrom(t *testing.T) {
	cases := []struct {
		g    impl.Ground
		i    int64
		want []int64
	}{
		{none9(1), 0, []int64{0}}, {none9(2), 0, []int64{0, -1}}, {none9(6), 3, []int64{-1, -1, -1, 0, -1, -1}}, {all9(6), 3, []int64{1, 1, 1, 0, 1, 1}}, {line9(6), 0, []int64{0, 1, 2, 3, 4, 5}}, {line9(6), 5, []int64{5, 4, 3, 2, 1, 0}}, {line9(6), 2, []int64{2, 1, 0, 1, 2, 3}}, {ring9(6), 0, []int64{0, 1, 2, 3, 2, 1}}, {ring9(5), 4, []int64{1, 2, 2, 1, 0}}, {ring9(3), 1, []int64{1, 0, 1}}, {star9(6), 0, []int64{0, 1, 1, 1, 1, 1}}, {star9(6), 4, []int64{1, 2, 2, 2, 0, 2}},
		// Parts that cannot be reached, and one road that makes a way shorter.
		{ground9(6, "01 12 34 45"), 1, []int64{1, 0, 1, -1, -1, -1}}, {ground9(6, "01 12 34 45"), 5, []int64{-1, -1, -1, 2, 1, 0}}, {ground9(4, "02 23"), 1, []int64{-1, 0, -1, -1}}, {ground9(6, "05 15 12 23 34"), 4, []int64{5, 3, 2, 1, 0, 4}}, {ground9(6, "05 15 12 23 34 24"), 4, []int64{4, 2, 1, 1, 0, 3}},
	}
	for _, c := range cases {
		if list, code := impl.DistancesFrom(c.g, c.i); !slices.Equal(list, c.want) || code != impl.ErrNone {
			t.Errorf("DistancesFrom(%v, %d) = %v, %d, not %v", c.g, c.i, list, code, c.want)
		}
	}
	for n, step := range []int64{1, 1, 1, 1, 1, 1, 7} {
		if n == 0 {
			continue
		}
		eachGround9(int64(n), step, func(g impl.Ground) {
			d := distances9(g)
			for i := range g.Places {
				if list, code := impl.DistancesFrom(g, i); !slices.Equal(list, d[i]) || code != impl.ErrNone {
					t.Errorf("DistancesFrom(%v, %d) = %v, %d, not %v", g, i, list, code, d[i])
				}
			}
		})
	}
}

func TestIsRoute(t *testing.T) {
	cases := []struct {
		g    impl.Ground
		text string
		want bool
	}{
		// One slot: each place is near to itself.
		{none9(1), "a", true}, {none9(6), "f", true}, {none9(1), ".", false}, {all9(6), ".", false}, {none9(2), "aaa", true}, {none9(2), "ab", false}, {line9(2), "ab", true}, {line9(2), "ba", true}, {line9(2), "aabb", true},
		// The last place is not near to the first one.
		{line9(3), "abcb", true}, {line9(3), "abc", false}, {line9(3), "cba", false}, {ring9(3), "abc", true}, {line9(3), "abbcb", true}, {line9(4), "abcd", false}, {ring9(4), "abcd", true}, {ring9(4), "abcdc", false}, {line9(3), "bca", false}, {line9(3), "acb", false}, {line9(3), "bcb", true},
		// A place in the middle is not near to the next one.
		{line9(4), "abdcba", false}, {line9(4), "abcdcb", true}, {star9(4), "abacad", true}, {star9(4), "abcaad", false}, {star9(6), "bafaeadaca", true}, {star9(6), "bfaeadaca", false},
		// Idle slots, first, in the middle, last, and only such ones.
		{all9(3), "abc", true}, {all9(3), ".abc", false}, {all9(3), "a.bc", false}, {all9(3), "abc.", false}, {all9(3), "....", false}, {all9(3), "a.", false}, {all9(3), ".a", false}, {all9(3), "aa.aa", false}, {all9(6), strings.Repeat("abcdef", 20), true}, {all9(6), strings.Repeat("abcdef", 19) + "abcde.", false}, {ring9(6), strings.Repeat("abcdef", 20), true}, {line9(6), strings.Repeat("abcdefedcb", 12), true}, {line9(6), strings.Repeat("abcdefedcb", 11) + "abcdefedcc", false}, {line9(6), strings.Repeat("f", 120), true},
	}
	for _, c := range cases {
		if yes, code := impl.IsRoute(c.g, slots(c.text)); yes != c.want || code != impl.ErrNone {
			t.Errorf("IsRoute(%v, %s) = %v, %d", c.g, c.text, yes, code)
		}
	}
	answers := map[bool]int{}
	eachRoute9(func(g impl.Ground, turns []int64) {
		want := route9(g, turns)
		answers[want]++
		if yes, code := impl.IsRoute(g, turns); yes != want || code != impl.ErrNone {
			t.Errorf("IsRoute(%v, %v) = %v, %d", g, turns, yes, code)
		}
	})
	if answers[true] < 5000 || answers[false] < 5000 {
		t.Errorf("only these answers: %v", answers)
	}
}

// eachRoute9 calls f with turns of places: all short ones of few places, and walks of up to MaxTurns slots on
// grounds of up to MaxPlaces places, many of which are routes, the same ones on each run.
func eachRoute9(f func(g impl.Ground, turns []int64)) {
	for n, most := range []int{0, 4, 5, 5} {
		if n > 0 {
			shortTurns(most, int64(n), func(turns []int64) {
				eachGround9(int64(n), 1, func(g impl.Ground) { f(g, turns) })
			})
		}
	}
	numbers := rand.New(rand.NewSource(99))
	for range 20000 {
		n := 1 + numbers.Int63n(6)
		g := impl.Ground{Places: n, Roads: numbers.Int63n(1<<bits9(n)) | numbers.Int63n(1<<bits9(n))}
		size := 1 + numbers.Intn(12)
		if numbers.Intn(4) == 0 {
			size = 1 + numbers.Intn(120)
		}
		turns := []int64{numbers.Int63n(n)}
		for len(turns) < size {
			next := numbers.Int63n(n)
			if near9(g, turns[len(turns)-1], next) {
				turns = append(turns, next)
			}
		}
		f(g, slices.Clone(turns))
		turns[numbers.Intn(size)] = numbers.Int63n(n+1) - 1
		f(g, turns)
	}
}

func TestRouteServes(t *testing.T) {
	cases := []struct {
		g    impl.Ground
		gaps []int64
		text string
		want bool
	}{
		{none9(1), []int64{1}, "a", true}, {none9(1), []int64{1}, "aa", true}, {none9(1), []int64{1}, ".", false}, {none9(1), []int64{40}, "a.", false}, {none9(1), []int64{40}, strings.Repeat("a", 120), true},
		{line9(2), []int64{2, 2}, "ab", true}, {line9(2), []int64{2, 1}, "ab", false}, {line9(2), []int64{1, 2}, "ab", false}, {none9(2), []int64{2, 2}, "ab", false}, {line9(2), []int64{40, 40}, "a", false}, {line9(2), []int64{40, 40}, "b", false},
		// Just served, and one slot less, in the middle and round the end.
		{line9(3), []int64{4, 2, 4}, "abcb", true}, {line9(3), []int64{3, 2, 4}, "abcb", false}, {line9(3), []int64{4, 1, 4}, "abcb", false}, {line9(3), []int64{4, 2, 3}, "abcb", false}, {line9(3), []int64{4, 2, 4}, "bcba", true}, {line9(3), []int64{5, 3, 5}, "abbcb", true}, {line9(3), []int64{5, 2, 5}, "abbcb", true}, {line9(3), []int64{5, 2, 5}, "abcbaaa", false}, {line9(3), []int64{4, 5, 7}, "abcbaaa", true}, {line9(3), []int64{4, 4, 7}, "abcbaaa", false}, {line9(3), []int64{4, 5, 6}, "abcbaaa", false}, {line9(3), []int64{3, 5, 7}, "abcbaaa", false},
		{line9(2), []int64{2, 3}, "aab", true}, {line9(2), []int64{2, 3}, "baa", true}, {line9(2), []int64{2, 3}, "aba", true}, {line9(2), []int64{2, 2}, "aab", false}, {line9(2), []int64{2, 3}, "abab", true}, {line9(2), []int64{2, 3}, "aabab", true}, {line9(2), []int64{2, 3}, "ababaa", false}, {line9(2), []int64{2, 4}, "ababaa", true}, {line9(2), []int64{2, 3}, "aaabab", false}, {line9(2), []int64{2, 4}, "aaabab", true},
		{all9(5), times(5, 5), "abcde", true}, {all9(5), []int64{5, 5, 4, 5, 5}, "abcde", false}, {ring9(5), times(5, 5), "edcba", true}, {line9(5), times(5, 5), "abcde", false}, {star9(4), []int64{2, 6, 6, 6}, "abacad", true}, {star9(4), []int64{2, 6, 5, 6}, "abacad", false}, {star9(4), []int64{2, 6, 6, 6}, "abcaad", false},
		// Turns that serve and are no route, and routes that do not come to all places.
		{line9(3), []int64{3, 3, 3}, "abc", false}, {all9(3), []int64{3, 3, 3}, "abc", true}, {all9(3), []int64{3, 3, 3}, "abc.", false}, {all9(3), []int64{4, 4, 4}, "abc.", false}, {all9(3), []int64{10, 10, 10}, "abab", false}, {all9(3), []int64{10, 10, 10}, "acac", false}, {all9(3), []int64{10, 10, 10}, "bcbc", false}, {line9(2), []int64{40, 40}, strings.Repeat("a", 39) + "b", true}, {line9(2), []int64{40, 39}, strings.Repeat("a", 39) + "b", false}, {line9(2), []int64{40, 40}, strings.Repeat("a", 40) + "b", false}, {line9(2), []int64{40, 40}, strings.Repeat(strings.Repeat("a", 39)+"b", 3), true}, {line9(2), []int64{40, 40}, strings.Repeat("a", 119) + "b", false},
	}
	for _, c := range cases {
		if yes, code := impl.RouteServes(c.g, tasksOf(c.gaps...), slots(c.text)); yes != c.want || code != impl.ErrNone {
			t.Errorf("RouteServes(%v, %v, %s) = %v, %d", c.g, c.gaps, c.text, yes, code)
		}
	}
}

// TestPromise17 looks at turns with gaps near to their waits: routes that serve are turns that serve.
func TestPromise17(t *testing.T) {
	answers := map[[3]bool]int{}
	numbers := rand.New(rand.NewSource(999))
	eachRoute9(func(g impl.Ground, turns []int64) {
		gaps, product := []int64(nil), g.Places
		for i := range g.Places {
			gap := numbers.Int63n(3) + 1
			if waits := waits1(turns, i); len(waits) > 0 {
				gap = min(max(slices.Max(waits)-numbers.Int63n(9)/8+numbers.Int63n(2), 1), 40)
			}
			gaps, product = append(gaps, gap), product*gap
		}
		if product > 20000 {
			return
		}
		tasks := tasksOf(gaps...)
		route, a := impl.IsRoute(g, turns)
		serve, b := impl.DoServe(tasks, turns)
		both, c := impl.RouteServes(g, tasks, turns)
		if both != (route && serve) || both != (route9(g, turns) && serves2(gaps, turns)) || a != impl.ErrNone || b != impl.ErrNone || c != impl.ErrNone {
			t.Errorf("RouteServes(%v, %v, %v) = %v, %d, but IsRoute %v, %d, and DoServe %v, %d", g, gaps, turns, both, c, route, a, serve, b)
		}
		answers[[3]bool{route, serve, both}]++
	})
	for _, kind := range [][3]bool{{true, true, true}, {true, false, false}, {false, true, false}, {false, false, false}} {
		if answers[kind] < 500 {
			t.Errorf("only %d turns with the answers %v", answers[kind], kind)
		}
	}
}

func TestCountSafe(t *testing.T) {
	cases := []struct {
		g    impl.Ground
		gaps []int64
		want int64
	}{
		{none9(1), []int64{1}, 1}, {none9(1), []int64{40}, 1}, {line9(2), []int64{2, 2}, 4}, {line9(2), []int64{2, 3}, 5}, {line9(2), []int64{40, 40}, 80}, {line9(2), []int64{1, 2}, 0}, {line9(2), []int64{40, 1}, 0}, {line9(2), []int64{1, 1}, 0}, {none9(2), []int64{40, 40}, 0}, {line9(3), []int64{3, 3, 3}, 0}, {none9(6), times(6, 3), 0},
		// At an end all states with at least 2 for the other end, in the middle all with at least 3 for one of both ends.
		{line9(3), []int64{4, 2, 4}, 2*3 + (16 - 4) + 2*3},
		// Of the nine states of each place just that with 1 for both others is not safe.
		{ring9(3), []int64{3, 3, 3}, 3 * (9 - 1)}, {ring9(3), []int64{3, 2, 3}, 0},
	}
	for _, c := range cases {
		if n, code := impl.CountSafe(c.g, tasksOf(c.gaps...)); n != c.want || code != impl.ErrNone {
			t.Errorf("CountSafe(%v, %v) = %d, %d, not %d", c.g, c.gaps, n, code, c.want)
		}
	}
}

// TestWatchersAgainstModel compares what comes of states with the model.
func TestWatchersAgainstModel(t *testing.T) {
	kinds := map[string]int{}
	eachWatch9(func(g impl.Ground, gaps []int64) {
		x, tasks := modelOf9(g, gaps), tasksOf(gaps...)
		if n, code := impl.CountSafe(g, tasks); n != x.safe() || code != impl.ErrNone {
			t.Errorf("CountSafe(%v, %v) = %d, %d, not %d", g, gaps, n, code, x.safe())
		}
		want, ahead := x.route()
		if can, code := impl.CanWatch(g, tasks); can != (len(want) > 0) || code != impl.ErrNone {
			t.Errorf("CanWatch(%v, %v) = %v, %d", g, gaps, can, code)
		}
		wantErr := int64(impl.ErrNone)
		switch {
		case len(want) == 0:
			wantErr = impl.ErrNotFound
			kinds["none"]++
		case len(want) > 120:
			kinds["long"]++
			kinds[fmt.Sprint(len(want))]++
			want, wantErr = nil, impl.ErrLimit
		default:
			kinds["found"]++
			kinds[fmt.Sprint(len(want))]++
			kinds[fmt.Sprint("behind ", min(ahead, 4))]++
		}
		if route, code := impl.FirstRoute(g, tasks); !slices.Equal(route, want) || code != wantErr {
			t.Errorf("FirstRoute(%v, %v) = %v, %d, not %v, %d", g, gaps, route, code, want, wantErr)
		}
	})
	for kind, least := range map[string]int{"none": 1000, "long": 6, "found": 300, "119": 1, "120": 3, "121": 2, "behind 0": 40, "behind 1": 40, "behind 2": 5, "behind 3": 10, "behind 4": 100} {
		if kinds[kind] < least {
			t.Errorf("only %d routes of the kind %s", kinds[kind], kind)
		}
	}
}

// TestCanWatchAgainstRoutes tries all routes of few slots: none serves what cannot be watched.
func TestCanWatchAgainstRoutes(t *testing.T) {
	var routes [4][][]int64
	for n := int64(1); n <= 3; n++ {
		shortTurns(7, n, func(turns []int64) {
			if !slices.Contains(turns, -1) {
				routes[n] = append(routes[n], turns)
			}
		})
	}
	answers := map[bool]int{}
	for n := int64(1); n <= 3; n++ {
		eachGround9(n, 1, func(g impl.Ground) {
			var here [][]int64
			for _, turns := range routes[n] {
				if route9(g, turns) {
					here = append(here, turns)
				}
			}
			for code := range int64(125) {
				gaps := []int64{1 + code%5, 1 + code/5%5, 1 + code/25}[:n]
				want := slices.ContainsFunc(here, func(turns []int64) bool { return serves2(gaps, turns) })
				answers[want]++
				if can, code := impl.CanWatch(g, tasksOf(gaps...)); can != want || code != impl.ErrNone {
					t.Errorf("CanWatch(%v, %v) = %v, %d", g, gaps, can, code)
				}
			}
		})
	}
	if answers[true] < 200 || answers[false] < 200 {
		t.Errorf("only these answers: %v", answers)
	}
}

func TestCanWatch(t *testing.T) {
	// Gaps with which nothing can be watched, and the next greater ones with which it can.
	cases := []struct {
		g    impl.Ground
		gaps []int64
		want bool
	}{
		{none9(1), []int64{1}, true}, {line9(2), []int64{1, 40}, false}, {line9(2), []int64{2, 1}, false}, {line9(2), []int64{2, 2}, true}, {none9(2), []int64{40, 40}, false}, {line9(3), []int64{3, 2, 4}, false}, {line9(3), []int64{4, 1, 4}, false}, {line9(3), []int64{4, 2, 3}, false}, {line9(3), []int64{4, 2, 4}, true}, {line9(4), []int64{5, 4, 4, 6}, false}, {line9(4), []int64{6, 3, 4, 6}, false}, {line9(4), []int64{6, 4, 4, 6}, true}, {ring9(4), times(4, 3), false}, {ring9(4), []int64{4, 4, 4, 3}, false}, {ring9(4), times(4, 4), true}, {star9(4), []int64{2, 6, 6, 5}, false}, {star9(4), []int64{1, 6, 6, 6}, false}, {star9(4), []int64{2, 6, 6, 6}, true}, {star9(5), []int64{2, 4, 7, 7, 7}, false}, {all9(5), []int64{3, 6, 6, 6, 6}, true}, {all9(5), []int64{3, 6, 6, 6, 5}, false}, {all9(5), []int64{2, 6, 6, 6, 6}, false}, {star9(6), []int64{2, 6, 6, 6, 6, 1}, false}, {all9(5), []int64{5, 5, 5, 5, 4}, false}, {all9(5), times(5, 5), true}, {all9(3), []int64{2, 4, 4}, true}, {all9(3), []int64{2, 3, 4}, false}, {all9(3), []int64{2, 3, 3}, false}, {all9(6), []int64{2, 4, 8, 8, 1, 1}, false}, {ring9(4), []int64{2, 4, 4, 4}, false}, {all9(4), []int64{2, 4, 8, 8}, true}, {star9(4), []int64{2, 4, 8, 8}, true}, {star9(4), []int64{3, 4, 8, 8}, true}, {star9(4), []int64{2, 4, 7, 8}, false},
	}
	for _, c := range cases {
		if can, code := impl.CanWatch(c.g, tasksOf(c.gaps...)); can != c.want || code != impl.ErrNone {
			t.Errorf("CanWatch(%v, %v) = %v, %d", c.g, c.gaps, can, code)
		}
	}
}

// TestFirstRoute has routes that are got by hand.
func TestFirstRoute(t *testing.T) {
	cases := []struct {
		g    impl.Ground
		gaps []int64
		want []int64
	}{
		{none9(1), []int64{1}, slots("a")}, {none9(1), []int64{40}, slots("a")}, {line9(2), []int64{2, 2}, slots("ab")},
		// It stays at the first place as long as it can: just the state with whole gaps does not come again, if the
		// second place has more than 2.
		{line9(2), []int64{2, 3}, slots("aab")}, {line9(2), []int64{40, 3}, slots("aab")}, {line9(2), []int64{3, 2}, slots("ab")}, {line9(2), []int64{2, 40}, append(times(39, 0), 1)}, {line9(2), []int64{40, 40}, append(times(39, 0), 1)},
		// Three slots ahead, at the first place, and there again, and at the second one, do not come again.
		{line9(3), []int64{4, 2, 4}, slots("cbab")},
		// On rings without room it first stays as long as it can, and the round begins where it then is just ahead.
		{ring9(3), []int64{3, 3, 3}, slots("bca")}, {ring9(4), times(4, 4), slots("cdab")}, {ring9(5), times(5, 5), slots("deabc")}, {all9(5), times(5, 5), slots("deabc")}, {star9(4), []int64{2, 6, 6, 6}, slots("cadaba")}, {ground9(4, "02 12 13 03"), times(4, 4), slots("bdac")},
		// Just MaxTurns slots. (The model in TestWatchersAgainstModel tells which ones.)
		{all9(3), []int64{2, 11, 40}, nil}, {all9(3), []int64{2, 12, 40}, nil}, {all9(3), []int64{2, 15, 40}, nil},
	}
	for _, c := range cases {
		route, code := impl.FirstRoute(c.g, tasksOf(c.gaps...))
		if c.want == nil && len(route) == 120 {
			c.want = route
		}
		if !slices.Equal(route, c.want) || code != impl.ErrNone {
			t.Errorf("FirstRoute(%v, %v) = %v, %d, not %v", c.g, c.gaps, route, code, c.want)
		}
	}
	for _, gaps := range [][]int64{{7, 31, 2, 11}, {5, 21, 3, 11}, {2, 11, 8, 25}} {
		// 121 and 122 slots: there is such a route, but it is too long.
		route, code := impl.FirstRoute(all9(4), tasksOf(gaps...))
		wantCode(t, fmt.Sprint("FirstRoute ", gaps), code, impl.ErrLimit, len(route) == 0)
		if can, code := impl.CanWatch(all9(4), tasksOf(gaps...)); !can || code != impl.ErrNone {
			t.Errorf("CanWatch(%v) = %v, %d", gaps, can, code)
		}
	}
	for _, c := range []struct {
		g    impl.Ground
		gaps []int64
	}{{none9(2), []int64{40, 40}}, {line9(2), []int64{1, 1}}, {line9(3), []int64{3, 3, 3}}, {line9(3), []int64{3, 2, 4}}, {none9(6), times(6, 3)}, {star9(5), times(5, 5)}, {ground9(4, "01 23"), times(4, 8)}} {
		route, code := impl.FirstRoute(c.g, tasksOf(c.gaps...))
		wantCode(t, fmt.Sprint("FirstRoute ", c), code, impl.ErrNotFound, len(route) == 0)
	}
}

func TestShortestRound(t *testing.T) {
	cases := []struct {
		g    impl.Ground
		want int64 // -1 if there is none
	}{
		{none9(1), 0}, {none9(2), -1}, {none9(6), -1}, {line9(2), 2}, {all9(3), 3}, {all9(6), 6}, {star9(6), 10}, {line9(6), 10}, {ring9(6), 6}, {ring9(3), 3},
		// Roads that are gone over twice: those to a place of one road, and one between two rings.
		{ground9(4, "01 12 02 23"), 5}, {ground9(6, "01 12 02 23 34 45 35"), 8}, {ground9(6, "01 12 02 23 34 24 05"), 8}, {ground9(5, "01 12 23 03 04"), 6},
		// All places have two roads and more, but no round comes to each just once.
		{ground9(5, "03 04 13 14 23 24"), 6}, {ground9(5, "01 02 12 03 04 34"), 6}, {ground9(6, "04 05 14 15 24 25 34 35"), 8},
		// Parts: the first place alone, the last one alone, and two of the same size.
		{ground9(5, "12 23 34 14"), -1}, {ground9(6, "01 12 23 34 04"), -1}, {ground9(6, "01 12 02 34 45 35"), -1}, {ground9(4, "01 23"), -1}, {ground9(4, "03 12"), -1},
	}
	for _, c := range cases {
		wantRound9(t, c.g, c.want)
	}
	for n, step := range []int64{1, 1, 1, 1, 1, 1, 13} {
		if n > 0 {
			eachGround9(int64(n), step, func(g impl.Ground) {
				want, _ := round9(g)
				wantRound9(t, g, want)
			})
		}
	}
}

// wantRound9 fails the test if a ground has not this shortest round, none for -1.
func wantRound9(t *testing.T, g impl.Ground, want int64) {
	t.Helper()
	n, code := impl.ShortestRound(g)
	if want < 0 {
		wantCode(t, fmt.Sprint("ShortestRound ", g), code, impl.ErrNotFound, n == 0)
	} else if n != want || code != impl.ErrNone {
		t.Errorf("ShortestRound(%v) = %d, %d, not %d", g, n, code, want)
	}
}

// equal9 returns the least equal gap by the model, 0 if there is none.
func equal9(g impl.Ground, most int64) int64 {
	for gap := int64(1); gap <= most; gap++ {
		if route, _ := modelOf9(g, times(int(g.Places), gap)).route(); len(route) > 0 {
			return gap
		}
	}
	return 0
}

// wantEqual9 fails the test if a ground has not this least equal gap in 1..most, none for 0.
func wantEqual9(t *testing.T, g impl.Ground, most, want int64) {
	t.Helper()
	gap, code := impl.LeastEqualGap(g, most)
	if want == 0 {
		wantCode(t, fmt.Sprint("LeastEqualGap ", g, most), code, impl.ErrNotFound, gap == 0)
	} else if gap != want || code != impl.ErrNone {
		t.Errorf("LeastEqualGap(%v, %d) = %d, %d, not %d", g, most, gap, code, want)
	}
}

// mostEqual9 are the greatest bounds for equal gaps of each number of places: one more is more than 10, or gives
// more than MaxWatched.
var mostEqual9 = []int64{0, 10, 10, 10, 8, 5, 3}

func TestLeastEqualGap(t *testing.T) {
	cases := []struct {
		g          impl.Ground
		most, want int64
	}{
		{none9(1), 1, 1}, {none9(1), 10, 1}, {none9(2), 1, 0}, {none9(2), 10, 0}, {line9(2), 1, 0}, {line9(2), 2, 2}, {line9(2), 10, 2}, {line9(3), 3, 0}, {line9(3), 4, 4}, {line9(3), 10, 4}, {ring9(3), 2, 0}, {ring9(3), 3, 3}, {ring9(3), 10, 3}, {line9(4), 5, 0}, {line9(4), 6, 6}, {line9(4), 8, 6}, {star9(4), 5, 0}, {star9(4), 6, 6}, {ring9(4), 3, 0}, {ring9(4), 4, 4}, {ring9(5), 4, 0}, {ring9(5), 5, 5}, {all9(5), 4, 0}, {all9(5), 5, 5}, {line9(5), 5, 0}, {ground9(4, "01 12 02 23"), 4, 0}, {ground9(4, "01 12 02 23"), 5, 5}, {ground9(4, "01 23"), 8, 0}, {all9(6), 3, 0}, {none9(6), 3, 0}, {all9(6), 1, 0},
	}
	for _, c := range cases {
		wantEqual9(t, c.g, c.most, c.want)
	}
	for n := int64(1); n <= 4; n++ {
		eachGround9(n, 1, func(g impl.Ground) {
			want := equal9(g, mostEqual9[n])
			for most := int64(1); most <= mostEqual9[n]; most++ {
				if most < want {
					wantEqual9(t, g, most, 0)
				} else {
					wantEqual9(t, g, most, want)
				}
			}
		})
	}
	eachGround9(5, 40, func(g impl.Ground) { wantEqual9(t, g, 5, equal9(g, 5)) })
	eachGround9(6, 5000, func(g impl.Ground) { wantEqual9(t, g, 3, 0) })
	for n := int64(4); n <= 6; n++ {
		for most := mostEqual9[n] + 1; most <= 10; most++ {
			for _, g := range []impl.Ground{none9(n), all9(n), line9(n), ring9(n), star9(n)} {
				gap, code := impl.LeastEqualGap(g, most)
				wantCode(t, fmt.Sprint("LeastEqualGap ", g, most), code, impl.ErrLimit, gap == 0)
			}
		}
	}
}

// TestPromise9OfRoutes: first routes serve.
func TestPromise9OfRoutes(t *testing.T) {
	routes := 0
	check := func(g impl.Ground, gaps []int64) {
		tasks := tasksOf(gaps...)
		route, code := impl.FirstRoute(g, tasks)
		if code != impl.ErrNone {
			return
		}
		routes++
		serve, also := impl.RouteServes(g, tasks, route)
		if !serve || also != impl.ErrNone || len(route) < 1 || len(route) > 120 || !route9(g, route) || !serves2(gaps, route) {
			t.Errorf("FirstRoute(%v, %v) = %v: RouteServes %v, %d", g, gaps, route, serve, also)
		}
		if can, code := impl.CanWatch(g, tasks); !can || code != impl.ErrNone {
			t.Errorf("FirstRoute(%v, %v) = %v, but CanWatch %v, %d", g, gaps, route, can, code)
		}
		if n, code := impl.CountSafe(g, tasks); n < int64(len(route)) || code != impl.ErrNone {
			t.Errorf("FirstRoute(%v, %v) = %v, but CountSafe %d, %d", g, gaps, route, n, code)
		}
	}
	eachWatch9(check)
	numbers := rand.New(rand.NewSource(90))
	for range 4000 {
		someWatch9(numbers, check)
	}
	if routes < 1500 {
		t.Errorf("only %d routes", routes)
	}
}

// TestPromise9OfRounds: rounds serve equal gaps of their length, as turns and, where there are not too many
// states, as routes; there are no lesser equal gaps.
func TestPromise9OfRounds(t *testing.T) {
	rounds, watched := 0, 0
	check := func(g impl.Ground) {
		length, code := impl.ShortestRound(g)
		if code != impl.ErrNone {
			return
		}
		rounds++
		_, walk := round9(g)
		if g.Places == 1 {
			length, walk = 1, []int64{0} // a walk without roads lasts no slot, but the one to stay does
		}
		tasks := tasksOf(times(int(g.Places), length)...)
		route, a := impl.IsRoute(g, walk)
		serve, b := impl.DoServe(tasks, walk)
		if int64(len(walk)) != length || !route || !serve || a != impl.ErrNone || b != impl.ErrNone {
			t.Errorf("the round %v of %v with the length %d: IsRoute %v, %d, DoServe %v, %d", walk, g, length, route, a, serve, b)
		}
		if most := mostEqual9[g.Places]; length <= most {
			watched++
			both, a := impl.RouteServes(g, tasks, walk)
			can, b := impl.CanWatch(g, tasks)
			gap, c := impl.LeastEqualGap(g, most)
			if !both || !can || gap != length || a != impl.ErrNone || b != impl.ErrNone || c != impl.ErrNone {
				t.Errorf("the round %v of %v: RouteServes %v, %d, CanWatch %v, %d, LeastEqualGap %d, %d", walk, g, both, a, can, b, gap, c)
			}
		}
	}
	for n, step := range []int64{1, 1, 1, 1, 1, 17, 97} {
		if n > 0 {
			eachGround9(int64(n), step, check)
		}
	}
	if rounds < 300 || watched < 60 {
		t.Errorf("only %d rounds, %d of them watched", rounds, watched)
	}
}

// TestGuarantee9: what can be watched can be watched with greater gaps, and with more roads, and has the more
// safe states; lines and rings have their rounds.
func TestGuarantee9(t *testing.T) {
	numbers := rand.New(rand.NewSource(900))
	greater := 0
	eachWatch9(func(g impl.Ground, gaps []int64) {
		tasks := tasksOf(gaps...)
		if can, _ := impl.CanWatch(g, tasks); !can || states6(gaps) > 3000 {
			return
		}
		safe, _ := impl.CountSafe(g, tasks)
		more := slices.Clone(gaps)
		i := numbers.Intn(len(more))
		more[i] = min(40, more[i]+1+numbers.Int63n(3))
		wide := impl.Ground{Places: g.Places, Roads: g.Roads | numbers.Int63n(1<<bits9(g.Places))}
		for _, also := range []impl.Ground{g, wide} {
			can, code := impl.CanWatch(also, tasksOf(more...))
			count, codeToo := impl.CountSafe(also, tasksOf(more...))
			if g.Places*states6(more) > 20000 {
				wantCode(t, fmt.Sprint("CanWatch ", also, more), code, impl.ErrLimit, !can)
			} else if greater++; !can || count < safe || code != impl.ErrNone || codeToo != impl.ErrNone {
				t.Errorf("%v with %v can be watched, but %v with %v: CanWatch %v, %d, CountSafe %d, %d, not %d", g, gaps, also, more, can, code, count, codeToo, safe)
			}
		}
	})
	if greater < 800 {
		t.Errorf("only %d greater gaps", greater)
	}
	for n := int64(1); n <= 6; n++ {
		line, _ := impl.LineGround(n)
		star, _ := impl.StarGround(n)
		wantRound9(t, line, 2*(n-1))
		wantRound9(t, star, 2*(n-1))
		if ring, code := impl.RingGround(n); code == impl.ErrNone {
			wantRound9(t, ring, n)
		}
	}
}

// args9 are the arguments of all functions on grounds: each takes some of them.
type args9 struct {
	g     impl.Ground
	gaps  []int64
	turns []int64
	i     int64
}

// call9 runs a function on a ground, and reports whether all other results are zero values. It takes tasks, turns,
// and the number i as a place, or not.
type call9 struct {
	name                string
	tasks, turns, place bool
	run                 func(x args9) (bool, int64)
}

// calls9 returns the functions on grounds, but LeastEqualGap, that takes another number.
func calls9() []call9 {
	return []call9{
		{"AreNear, first", false, false, true, func(x args9) (bool, int64) {
			y, code := impl.AreNear(x.g, x.i, 0)
			return !y, code
		}},
		{"AreNear, second", false, false, true, func(x args9) (bool, int64) {
			y, code := impl.AreNear(x.g, 0, x.i)
			return !y, code
		}},
		{"AreNear, both", false, false, true, func(x args9) (bool, int64) {
			y, code := impl.AreNear(x.g, x.i, x.i)
			return !y, code
		}},
		{"DistancesFrom", false, false, true, func(x args9) (bool, int64) {
			y, code := impl.DistancesFrom(x.g, x.i)
			return len(y) == 0, code
		}},
		{"IsRoute", false, true, false, func(x args9) (bool, int64) {
			y, code := impl.IsRoute(x.g, x.turns)
			return !y, code
		}},
		{"RouteServes", true, true, false, func(x args9) (bool, int64) {
			y, code := impl.RouteServes(x.g, tasksOf(x.gaps...), x.turns)
			return !y, code
		}},
		{"CountSafe", true, false, false, func(x args9) (bool, int64) {
			y, code := impl.CountSafe(x.g, tasksOf(x.gaps...))
			return y == 0, code
		}},
		{"CanWatch", true, false, false, func(x args9) (bool, int64) {
			y, code := impl.CanWatch(x.g, tasksOf(x.gaps...))
			return !y, code
		}},
		{"FirstRoute", true, false, false, func(x args9) (bool, int64) {
			y, code := impl.FirstRoute(x.g, tasksOf(x.gaps...))
			return len(y) == 0, code
		}},
		{"ShortestRound", false, false, false, func(x args9) (bool, int64) {
			y, code := impl.ShortestRound(x.g)
			return y == 0, code
		}},
	}
}

// want9 fails the test if a function does not return this code.
func want9(t *testing.T, c call9, x args9, want int64) {
	t.Helper()
	zero, code := c.run(x)
	wantCode(t, fmt.Sprint(c.name, " of ", x), code, want, zero)
}

// TestErrors9 has no fault, one, or several ones at once, for which the order of errors decides.
func TestErrors9(t *testing.T) {
	for faults := range 64 {
		has := func(bit int) bool { return faults>>bit&1 == 1 }
		badGround, badTasks, badTurns, badPlace, badCount, tooMany := has(0), has(1), has(2), has(3), has(4), has(5)
		x := args9{g: line9(3), gaps: []int64{4, 2, 4}, turns: []int64{0, 1, 2, 1}, i: 1}
		if tooMany {
			x.gaps = []int64{40, 40, 40}
		}
		if badCount {
			x.gaps = append(x.gaps, 4)
		}
		if badTasks {
			x.gaps[len(x.gaps)-1] = 41
		}
		if badTurns {
			x.turns = []int64{0, 1, 3, 1}
		}
		if badPlace {
			x.i = 3
		}
		if badGround {
			x.g.Roads = 8
		}
		for _, c := range calls9() {
			want := int64(impl.ErrNone)
			switch {
			case badGround || c.tasks && badTasks:
				want = impl.ErrInvalid
			case c.turns && badTurns || c.place && badPlace || c.tasks && badCount:
				want = impl.ErrRange
			case c.tasks && tooMany:
				want = impl.ErrLimit
			}
			want9(t, c, x, want)
		}
	}
}

// TestInvalid9 has all that is no ground, and no tasks, with arguments beside it that are good ones and bad ones.
func TestInvalid9(t *testing.T) {
	others := []args9{{gaps: []int64{4, 2, 4}, turns: []int64{0, 1, 2, 1}, i: 1}, {gaps: []int64{40, 40, 40, 40, 40, 40}, turns: []int64{0}}, {gaps: []int64{1}, turns: []int64{0}}, {i: -1}, {gaps: []int64{0}, turns: []int64{7}, i: 6}}
	for _, c := range calls9() {
		for _, x := range others {
			for _, bad := range badGrounds9() {
				x.g = bad
				want9(t, c, x, impl.ErrInvalid)
			}
		}
		for _, bad := range badTasks1() {
			for n := int64(1); n <= 6 && c.tasks; n++ {
				for _, g := range []impl.Ground{none9(n), all9(n)} {
					want9(t, c, args9{g: g, gaps: bad.Gaps, turns: []int64{0}}, impl.ErrInvalid)
					want9(t, c, args9{g: g, gaps: bad.Gaps, turns: []int64{n}}, impl.ErrInvalid)
					want9(t, c, args9{g: g, gaps: bad.Gaps}, impl.ErrInvalid)
				}
			}
		}
	}
	for _, bad := range badGrounds9() {
		for _, most := range append(badCounts8(10), 1, 2, 3, 10) {
			gap, code := impl.LeastEqualGap(bad, most)
			wantCode(t, fmt.Sprint("LeastEqualGap ", bad, most), code, impl.ErrInvalid, gap == 0)
		}
	}
}

// TestRanges9 has places and turns that are none, fewer and more tasks than places, and bounds that are too small
// and too great.
func TestRanges9(t *testing.T) {
	for _, c := range calls9() {
		for n := int64(1); n <= 6; n++ {
			few := times(int(n), 3)
			for _, g := range []impl.Ground{none9(n), all9(n), line9(n)} {
				for _, i := range badPlaces8(n) {
					if c.place {
						want9(t, c, args9{g: g, i: i}, impl.ErrRange)
					}
				}
				for _, turns := range badTurns1(n) {
					if c.turns {
						want9(t, c, args9{g: g, gaps: few, turns: turns}, impl.ErrRange)
						want9(t, c, args9{g: g, gaps: times(int(n), 40), turns: turns}, impl.ErrRange) // ahead of ErrLimit
					}
				}
				for k := 1; k <= 8; k++ {
					if c.tasks && int64(k) != n {
						want9(t, c, args9{g: g, gaps: times(k, 1), turns: []int64{0}}, impl.ErrRange)
						want9(t, c, args9{g: g, gaps: times(k, 40), turns: []int64{0}}, impl.ErrRange) // ahead of ErrLimit
					}
				}
			}
		}
	}
	for n := int64(1); n <= 6; n++ {
		for _, g := range []impl.Ground{none9(n), all9(n), line9(n)} {
			for _, most := range badCounts8(10) {
				gap, code := impl.LeastEqualGap(g, most)
				wantCode(t, fmt.Sprint("LeastEqualGap ", g, most), code, impl.ErrRange, gap == 0)
			}
		}
	}
}

// TestLimits9 has products of places and gaps of just MaxWatched, or nearest to it below, and the least ones that are
// greater: 20007 for 3 places, 20010 for 5 and 6, 20020 for 4.
func TestLimits9(t *testing.T) {
	for _, gaps := range [][]int64{{40, 25, 5, 1}, {1, 5, 25, 40}, {10, 10, 5, 10}, {10, 10, 10, 2, 2}, {2, 10, 2, 10, 10}, {14, 28, 17}, {4, 7, 7, 17, 1, 1}} {
		n := int64(len(gaps))
		for _, c := range calls9() {
			for _, g := range []impl.Ground{none9(n), all9(n)} {
				x := modelOf9(g, gaps)
				route, _ := x.route()
				want := int64(impl.ErrNone)
				if c.name == "FirstRoute" && len(route) == 0 {
					want = impl.ErrNotFound
				} else if c.name == "FirstRoute" && len(route) > 120 {
					want = impl.ErrLimit
				} else if c.name == "ShortestRound" && g.Roads == 0 {
					want = impl.ErrNotFound
				}
				want9(t, c, args9{g: g, gaps: gaps, turns: []int64{0}}, want)
			}
		}
	}
	for _, gaps := range [][]int64{{27, 13, 19}, {19, 13, 27}, {10, 23, 29}, {5, 7, 11, 13}, {6, 23, 29, 1, 1}, {5, 23, 29, 1, 1, 1}, {1, 1, 1, 29, 23, 5}, {4, 6, 11, 19}, {40, 40, 5, 1}, {40, 40, 40}, {10, 20, 40}, times(5, 10), times(6, 4), times(6, 40), {40, 40, 1, 1, 1, 40}} {
		n := int64(len(gaps))
		for _, c := range calls9() {
			for _, g := range []impl.Ground{none9(n), all9(n), line9(n), star9(n)} {
				if c.tasks {
					want9(t, c, args9{g: g, gaps: gaps, turns: []int64{0}}, impl.ErrLimit) // ahead of ErrNotFound
				}
			}
		}
	}
}

// TestMemory9 writes over results, and looks whether arguments, and what stands behind their ends, keep what they
// had.
func TestMemory9(t *testing.T) {
	gapsWere, turnsWere := []int64{5, 2, 9}, []int64{0, 1, 2, 1}
	gaps, turns, ring := withSpare(gapsWere), withSpare(turnsWere), ring9(3)
	tasks := impl.Tasks{Gaps: gaps}
	calls := map[string]func() []int64{
		"DistancesFrom": func() []int64 { y, _ := impl.DistancesFrom(ring, 1); return y },
		"FirstRoute":    func() []int64 { y, _ := impl.FirstRoute(ring, tasks); return y },
		"the others": func() []int64 {
			safe, a := impl.CountSafe(ring, tasks)
			gap, b := impl.LeastEqualGap(ring, 10)
			round, c := impl.ShortestRound(ring)
			_, d := impl.CanWatch(ring, tasks)
			_, e := impl.IsRoute(ring, turns)
			_, f := impl.RouteServes(ring, tasks, turns)
			return []int64{safe, gap, round, a, b, c, d, e, f}
		},
	}
	for name, call := range calls {
		first := call()
		kept := slices.Clone(first)
		overwrite(first)
		if len(kept) < 3 || !spareIsWhole(gaps, gapsWere) || !spareIsWhole(turns, turnsWere) {
			t.Fatalf("%s shares memory with an argument, or changes it: %v", name, kept)
		}
		if !slices.Equal(call(), kept) {
			t.Errorf("%s returns something else on its second call", name)
		}
	}
}

// TestNothingGoesOn9: behind the calls nothing goes on, also if many of them are made at once, and no call depends
// on the others.
func TestNothingGoesOn9(t *testing.T) {
	grounds := []impl.Ground{line9(4), ring9(4), star9(4), all9(3), none9(4), line9(2)}
	least, safe := []int64{6, 4, 6, 3, 0, 2}, []int64{}
	for _, g := range grounds {
		safe = append(safe, modelOf9(g, times(int(g.Places), 6)).safe())
	}
	before := runtime.NumGoroutine()
	var all sync.WaitGroup
	for n := range 40 {
		all.Go(func() {
			g := grounds[n%len(grounds)]
			for range 5 {
				if gap, _ := impl.LeastEqualGap(g, 8); gap != least[n%len(grounds)] {
					t.Errorf("LeastEqualGap(%v, 8) = %d", g, gap)
				}
				if count, _ := impl.CountSafe(g, tasksOf(times(int(g.Places), 6)...)); count != safe[n%len(grounds)] {
					t.Errorf("CountSafe(%v) = %d", g, count)
				}
			}
		})
	}
	all.Wait()
	// Those that have told that they are done may take a moment till they are gone.
	for tries := 0; tries < 1000000 && runtime.NumGoroutine() > before; tries++ {
		runtime.Gosched()
	}
	if behind := runtime.NumGoroutine(); behind > before {
		t.Errorf("%d goroutines behind the calls, %d before them", behind, before)
	}
}
