package tests

import (
	"fmt"
	"math/rand"
	"runtime"
	"slices"
	"strings"
	"sync"
	"testing"

	"loop.example/g01404/impl"
)

// channels8 returns the channels with these texts.
func channels8(texts ...string) [][]int64 {
	var list [][]int64
	for _, text := range texts {
		list = append(list, slots(text))
	}
	return list
}

// idle8 returns m channels with so many slots that are all idle.
func idle8(m, size int) [][]int64 {
	var list [][]int64
	for range m {
		list = append(list, times(size, -1))
	}
	return list
}

// on8 returns the channels on which a task has a turn in a slot, round the end.
func on8(list [][]int64, slot int, i int64) []int {
	var on []int
	for channel, turns := range list {
		if who1(turns, slot) == i {
			on = append(on, channel)
		}
	}
	return on
}

// clashes8 finds clashes by looking at each two channels.
func clashes8(k int64, list [][]int64) [][]int64 {
	var clashes [][]int64
	for slot := range list[0] {
		for i := range k {
			found := false
			for a, turns := range list {
				for _, others := range list[:a] {
					found = found || turns[slot] == i && others[slot] == i
				}
			}
			if found {
				clashes = append(clashes, []int64{int64(slot), i})
			}
		}
	}
	return clashes
}

// serve8 looks at all slots, one behind the other, that are as many as the gap of a task.
func serve8(gaps []int64, list [][]int64) bool {
	for i, gap := range gaps {
		for slot := range list[0] {
			found := false
			for n := range gap {
				found = found || len(on8(list, slot+int(n), int64(i))) > 0
			}
			if !found {
				return false
			}
		}
	}
	return true
}

// wait8 walks from each slot with a turn of a task to the next one.
func wait8(list [][]int64, i int64) int64 {
	greatest := 0
	for slot := range list[0] {
		if len(on8(list, slot, i)) == 0 {
			continue
		}
		wait := 1
		for len(on8(list, slot+wait, i)) == 0 {
			wait++
		}
		greatest = max(greatest, wait)
	}
	return int64(greatest)
}

// handOvers8 walks back from each turn of a task to the one ahead of it.
func handOvers8(list [][]int64, i int64) int64 {
	count := int64(0)
	for slot := range list[0] {
		on := on8(list, slot, i)
		if len(on) == 0 {
			continue
		}
		ahead := slot - 1
		for len(on8(list, ahead, i)) == 0 {
			ahead--
		}
		if on8(list, ahead, i)[0] != on[0] {
			count++
		}
	}
	return count
}

// members8 returns the tasks of a set.
func members8(set int64) []int64 {
	var tasks []int64
	for i := int64(0); set > 0; i++ {
		if set%2 == 1 {
			tasks = append(tasks, i)
		}
		set /= 2
	}
	return tasks
}

// setOf8 returns the set of some tasks.
func setOf8(tasks ...int64) int64 {
	set := int64(0)
	for _, i := range tasks {
		set += 1 << i
	}
	return set
}

// model8 has all states of tasks by a number each, and strikes out again and again those from which no open
// set leads to a state that is left, till the lasting ones are left.
type model8 struct {
	gaps, sets []int64
	behind     [][]int // the state behind each set, -1 if it is not open
	left       []bool
}

func modelOf8(gaps []int64, m int) *model8 {
	x := &model8{gaps: gaps}
	for set := range int64(1) << len(gaps) {
		if len(members8(set)) <= m {
			x.sets = append(x.sets, set)
		}
	}
	for n := range int(states6(gaps)) {
		var row []int
		for _, set := range x.sets {
			row = append(row, x.step(n, set))
		}
		x.behind, x.left = append(x.behind, row), append(x.left, true)
	}
	for changed := true; changed; {
		changed = false
		for n := range x.left {
			if x.left[n] && x.least(n) < 0 {
				x.left[n], changed = false, true
			}
		}
	}
	return x
}

// step returns the number of the state behind a set.
func (x *model8) step(n int, set int64) int {
	behind, unit := 0, 1
	for i, gap := range x.gaps {
		number := int64(n/unit)%gap + 1
		if slices.Contains(members8(set), int64(i)) {
			number = gap
		} else {
			number--
		}
		if number == 0 {
			return -1
		}
		behind += int(number-1) * unit
		unit *= int(gap)
	}
	return behind
}

// least returns the place of the least set that leads to a state that is left, -1 for none.
func (x *model8) least(n int) int {
	return slices.IndexFunc(x.behind[n], func(behind int) bool { return behind >= 0 && x.left[behind] })
}

// served reports whether the full state, the last one, is left.
func (x *model8) served() bool { return x.left[len(x.left)-1] }

// play returns the head and the round of the least play.
func (x *model8) play() ([]int64, []int64) {
	var sets []int64
	var came []int
	for n := len(x.left) - 1; ; {
		if at := slices.Index(came, n); at >= 0 {
			return sets[:at], sets[at:]
		}
		came = append(came, n)
		at := x.least(n)
		sets = append(sets, x.sets[at])
		n = x.behind[n][at]
	}
}

// alone8 tells which tasks can be served alone, and remembers it by their gaps.
type alone8 map[string]bool

func (known alone8) served(gaps []int64) bool {
	sorted := slices.Sorted(slices.Values(gaps))
	key := fmt.Sprint(sorted)
	if _, done := known[key]; !done {
		known[key] = len(sorted) == 0 || modelOf8(sorted, 1).served()
	}
	return known[key]
}

// isSplit reports whether a list tells a split.
func (known alone8) isSplit(gaps, list []int64, m int) bool {
	for channel := range int64(m) {
		var here []int64
		for i, on := range list {
			if on == channel {
				here = append(here, gaps[i])
			}
		}
		if !known.served(here) {
			return false
		}
	}
	return true
}

// splits returns all splits, in lexicographic order.
func (known alone8) splits(gaps []int64, m int) [][]int64 {
	all := [][]int64{nil}
	for range gaps {
		var longer [][]int64
		for _, list := range all {
			for channel := range int64(m) {
				longer = append(longer, append(slices.Clone(list), channel))
			}
		}
		all = longer
	}
	return slices.DeleteFunc(all, func(list []int64) bool { return !known.isSplit(gaps, list, m) })
}

// put8 puts sets by looking back for the last turn of each task.
func put8(m int, sets []int64) [][]int64 {
	list := idle8(m, len(sets))
	for slot, set := range sets {
		var kept []int64
		for _, i := range members8(set) {
			for back := slot - 1; back >= 0; back-- {
				if on := on8(list, back, i); len(on) > 0 {
					if list[on[0]][slot] == -1 {
						list[on[0]][slot] = i
						kept = append(kept, i)
					}
					break
				}
			}
		}
		for _, i := range members8(set) {
			if !slices.Contains(kept, i) {
				list[on8(list, slot, -1)[0]][slot] = i
			}
		}
	}
	return list
}

// sameLists8 reports whether two lists of lists are equal.
func sameLists8(a, b [][]int64) bool {
	return slices.EqualFunc(a, b, slices.Equal)
}

// fewChannels8 calls f with all channels of a few slots for two and three tasks.
func fewChannels8(f func(k int64, list [][]int64)) {
	for _, c := range []struct {
		m, size int
		k       int64
	}{{1, 1, 1}, {1, 4, 2}, {1, 3, 3}, {2, 1, 3}, {2, 2, 2}, {2, 3, 2}, {2, 4, 1}, {3, 1, 3}, {3, 2, 2}, {3, 3, 1}, {4, 1, 3}, {4, 2, 1}} {
		list := idle8(c.m, c.size)
		var fill func(at int)
		fill = func(at int) {
			if at == c.m*c.size {
				var cloned [][]int64
				for _, turns := range list {
					cloned = append(cloned, slices.Clone(turns))
				}
				f(c.k, cloned)
				return
			}
			for who := int64(-1); who < c.k; who++ {
				list[at/c.size][at%c.size] = who
				fill(at + 1)
			}
		}
		fill(0)
	}
}

// moreChannels8 calls f with channels of up to MaxTurns slots, the same ones on each run: such ones with any
// tasks in their slots, and such ones that have no clash.
func moreChannels8(f func(k int64, list [][]int64)) {
	numbers := rand.New(rand.NewSource(8))
	for n := range 700 {
		k, m, size := 1+numbers.Intn(8), 1+numbers.Intn(4), 1+numbers.Intn(12)
		switch n % 7 {
		case 5:
			size = 1 + numbers.Intn(120)
		case 6:
			size = 120
		}
		any8, apart := idle8(m, size), idle8(m, size)
		for slot := range size {
			order := numbers.Perm(k + m) // numbers from k on leave a channel idle
			for channel := range m {
				any8[channel][slot] = int64(numbers.Intn(k+1)) - 1
				if order[channel] < k {
					apart[channel][slot] = int64(order[channel])
				}
			}
		}
		f(int64(k), any8)
		f(int64(k), apart)
	}
}

// eachChannels8 calls f with few channels and more ones.
func eachChannels8(f func(k int64, list [][]int64)) {
	fewChannels8(f)
	moreChannels8(f)
}

// edgeGaps8 are gaps at limits, and gaps that need several channels.
var edgeGaps8 = [][]int64{
	{1}, {2}, {40}, {1, 1}, {1, 40}, {40, 1}, {40, 40}, {1, 1, 1}, {1, 1, 1, 1}, {1, 1, 1, 1, 1}, {1, 1, 1, 1, 40}, {1, 1, 1, 40, 40}, times(8, 1), times(7, 1), times(8, 2), times(7, 2), times(6, 2), times(5, 2), {1, 2, 2, 2, 2, 2, 2}, {1, 2, 2, 2, 2, 2, 2, 2}, {1, 1, 1, 2, 2}, {1, 1, 1, 2, 2, 2}, {1, 1, 2, 3, 6}, {2, 3, 6}, {2, 3, 40}, {3, 3, 3, 3}, {2, 2, 2, 3, 6}, {3, 2, 2, 3, 3}, {3, 3, 4, 4, 5}, {2, 2, 3, 3, 4}, {2, 2, 3, 4, 5, 6}, {1, 2, 3, 4, 5, 6}, {1, 1, 2, 2, 3, 3, 4, 4}, {2, 2, 2, 2, 2, 3, 3, 5},
	{10, 10, 40}, {40, 10, 10}, {5, 5, 5, 5, 5}, {4, 4, 6, 6, 6}, {3, 6, 6, 6, 6}, {2, 4, 8, 8}, {2, 2, 2, 2, 2, 5, 5, 5}, {3, 3, 3, 3, 3, 3, 3}, {1, 10, 10, 40}, {1, 1, 1, 1, 10, 10, 40}, {2, 40, 2, 25}, {4, 4, 4, 4, 4}, {1, 1, 5, 2, 20, 20},
}

// eachTasks8 calls f with gaps: all of at most four tasks with few states, those at limits, and others of up
// to MaxTasks tasks, the same ones on each run.
func eachTasks8(f func(gaps []int64)) {
	eachGaps2(24, f)
	for _, gaps := range edgeGaps8 {
		f(gaps)
	}
	numbers := rand.New(rand.NewSource(88))
	for range 150 {
		gaps, states := []int64(nil), int64(1)
		for range 1 + numbers.Intn(8) {
			gap := 1 + numbers.Int63n(min(8, max(1, 400/states)))
			gaps, states = append(gaps, gap), states*gap
		}
		f(gaps)
	}
}

func TestConstants8(t *testing.T) {
	if impl.MaxChannels != 4 {
		t.Errorf("MaxChannels = %d", impl.MaxChannels)
	}
}

func TestAreChannels(t *testing.T) {
	yes := []struct {
		k    int64
		list [][]int64
	}{
		{1, channels8("a")}, {1, channels8(".")}, {2, channels8("a")}, {8, channels8("h")}, {8, channels8("abcdefgh", "hgfedcba", "........", "a.a.a.a.")}, {3, channels8("aa", "bc")}, {3, channels8("a", "a", "a", "a")}, {8, idle8(4, 120)}, {1, idle8(1, 1)}, {8, channels8(strings.Repeat("abcdefgh", 15), strings.Repeat("h", 120))}, {1, [][]int64{times(120, 0), times(120, 0), times(120, 0), times(120, 0)}},
	}
	for _, c := range yes {
		if !impl.AreChannels(c.k, c.list) {
			t.Errorf("AreChannels(%d, %v) = false", c.k, c.list)
		}
	}
	eachChannels8(func(k int64, list [][]int64) {
		if !impl.AreChannels(k, list) {
			t.Errorf("AreChannels(%d, %v) = false", k, list)
		}
	})
	for k := int64(1); k <= 8; k++ {
		for _, bad := range badChannels8(k) {
			if impl.AreChannels(k, bad) {
				t.Errorf("AreChannels(%d, %v) = true", k, bad)
			}
		}
	}
	for _, k := range badCounts8(8) {
		for _, list := range [][][]int64{channels8("."), channels8("a"), channels8("ab", "ba"), idle8(4, 120), nil} {
			if impl.AreChannels(k, list) {
				t.Errorf("AreChannels(%d, %v) = true", k, list)
			}
		}
	}
}

// badChannels8 are lists that are no channels for k tasks.
func badChannels8(k int64) [][][]int64 {
	bad := [][][]int64{nil, {}, {nil}, {{}}, {nil, nil}, {{}, {}, {}, {}}, {nil, nil, nil, nil, nil}, {{0}, nil}, {nil, {0}}, {{0}, {}}, {{0}, {0}, {0}, nil}, idle8(5, 1), idle8(5, 120), idle8(6, 3), idle8(100, 2), idle8(1, 121), idle8(4, 121), idle8(2, 5000)}
	// Channels with different numbers of slots.
	bad = append(bad, [][]int64{{0}, {0, 0}}, [][]int64{{0, 0}, {0}}, [][]int64{{0}, {0}, {0}, {0, 0}}, [][]int64{{0, 0}, {0}, {0, 0}}, [][]int64{{-1, -1}, {-1}}, [][]int64{times(120, 0), times(119, 0)}, [][]int64{times(120, 0), times(121, 0)}, [][]int64{times(121, 0), times(120, 0)})
	for _, turns := range badTurns1(k) {
		bad = append(bad, [][]int64{turns}, [][]int64{turns, times(len(turns), 0)}, [][]int64{times(len(turns), 0), turns}, [][]int64{times(len(turns), -1), times(len(turns), -1), times(len(turns), -1), turns})
	}
	return bad
}

// badCounts8 are numbers that are not in 1..most.
func badCounts8(most int64) []int64 {
	return append([]int64{0, -1, -2, -most, most + 1, most + 2, 100, 256 + 1, 1<<16 + 1, 1<<32 + 1}, farNumbers...)
}

// badPlaces8 are numbers that are not in 0..k - 1.
func badPlaces8(k int64) []int64 {
	return append([]int64{-1, -2, -k, k, k + 1, 100, 256, 1 << 16}, farNumbers...)
}

func TestClashesOf(t *testing.T) {
	cases := []struct {
		k    int64
		list [][]int64
		want [][]int64
	}{
		{1, channels8("a"), nil}, {1, channels8("."), nil}, {2, channels8("ab", "ba"), nil}, {2, channels8("ab", "a."), [][]int64{{0, 0}}}, {2, channels8("ab", ".b"), [][]int64{{1, 1}}},
		// Slots that are idle on several channels are no clash.
		{1, idle8(4, 1), nil}, {8, idle8(4, 120), nil}, {2, channels8("a..", "..b", "..."), nil},
		// Two channels and more in one slot, side by side and not.
		{1, channels8("a", "a"), [][]int64{{0, 0}}}, {1, channels8("a", "a", "a"), [][]int64{{0, 0}}}, {1, channels8("a", "a", "a", "a"), [][]int64{{0, 0}}}, {2, channels8("a", "b", "a"), [][]int64{{0, 0}}}, {3, channels8("b", "a", "c", "b"), [][]int64{{0, 1}}}, {2, channels8(".", "b", ".", "b"), [][]int64{{0, 1}}},
		// Several clashes in one slot, and in several slots.
		{2, channels8("a", "b", "a", "b"), [][]int64{{0, 0}, {0, 1}}}, {2, channels8("b", "b", "a", "a"), [][]int64{{0, 0}, {0, 1}}}, {8, channels8("h", "c", "h", "c"), [][]int64{{0, 2}, {0, 7}}}, {2, channels8("ba", "ba"), [][]int64{{0, 1}, {1, 0}}}, {3, channels8("ca.b", "ca.b", ".b.a", "bb.a"), [][]int64{{0, 2}, {1, 0}, {1, 1}, {3, 0}, {3, 1}}},
		{8, channels8(strings.Repeat(".", 119)+"h", strings.Repeat(".", 119)+"h"), [][]int64{{119, 7}}},
		// The same task on other channels in other slots.
		{1, channels8("a.", ".a"), nil}, {8, channels8("abcdefgh", "bcdefgha", "cdefghab", "defghabc"), nil},
	}
	for _, c := range cases {
		if clashes, code := impl.ClashesOf(c.k, c.list); !sameLists8(clashes, c.want) || code != impl.ErrNone {
			t.Errorf("ClashesOf(%d, %v) = %v, %d, not %v", c.k, c.list, clashes, code, c.want)
		}
	}
	list := [][]int64{times(120, 5), times(120, 2), times(120, 5), times(120, 2)}
	if clashes, code := impl.ClashesOf(8, list); len(clashes) != 240 || !slices.Equal(clashes[238], []int64{119, 2}) || !slices.Equal(clashes[239], []int64{119, 5}) || code != impl.ErrNone {
		t.Errorf("ClashesOf 240 clashes = %v, %d", clashes, code)
	}
	some, none := 0, 0
	eachChannels8(func(k int64, list [][]int64) {
		want := clashes8(k, list)
		if clashes, code := impl.ClashesOf(k, list); !sameLists8(clashes, want) || code != impl.ErrNone {
			t.Errorf("ClashesOf(%d, %v) = %v, %d, not %v", k, list, clashes, code, want)
		}
		if len(want) > 0 {
			some++
		} else {
			none++
		}
	})
	if some < 1000 || none < 1000 {
		t.Errorf("only %d channels with clashes, %d without them", some, none)
	}
}

func TestServeTogether(t *testing.T) {
	cases := []struct {
		gaps    []int64
		list    [][]int64
		want    bool
		wantErr int64
	}{
		{[]int64{1, 2, 2}, channels8("aa", "bc"), true, 0}, {[]int64{1}, channels8("a"), true, 0}, {[]int64{1}, channels8("."), false, 0}, {[]int64{40}, idle8(4, 120), false, 0}, {[]int64{1}, channels8("a.", ".a"), true, 0}, {[]int64{1}, channels8("a.", ".."), false, 0}, {[]int64{1, 1}, channels8("ab", "ba"), true, 0}, {[]int64{1, 1}, channels8("ab", "b."), false, 0}, {[]int64{1, 1, 1, 1}, channels8("a", "b", "c", "d"), true, 0}, {[]int64{1, 1, 1, 1}, channels8("a", "b", "c", "."), false, 0},
		{[]int64{4, 4, 4, 4, 4, 4, 4, 4}, channels8("aceg", "bdfh"), true, 0}, {[]int64{4, 4, 4, 4, 4, 4, 4, 3}, channels8("aceg", "bdfh"), false, 0}, {times(8, 2), channels8("ae", "bf", "cg", "dh"), true, 0}, {times(8, 1), channels8("ae", "bf", "cg", "dh"), false, 0},
		// Just as many slots as the gap, and one more.
		{[]int64{3, 40}, channels8("a..", "..b"), true, 0}, {[]int64{2, 40}, channels8("a..", "..b"), false, 0}, {[]int64{3}, channels8("a.....", "...a.."), true, 0}, {[]int64{3}, channels8("a.....", "....a."), false, 0}, {[]int64{4}, channels8("a.....", "....a."), true, 0}, {[]int64{2, 4}, channels8("a...a.", "..ab.b"), true, 0}, {[]int64{2, 3}, channels8("a...a.", "..ab.b"), false, 0}, {[]int64{1, 4}, channels8("a...a.", "..ab.b"), false, 0},
		// It misses only round the end.
		{[]int64{2}, channels8("a.a..", "....."), false, 0}, {[]int64{3}, channels8("a.a..", "....."), true, 0}, {[]int64{2}, channels8(".a.", "..."), false, 0}, {[]int64{2}, channels8(".a.", "..a"), true, 0}, {[]int64{2, 40}, channels8(".a.a.", "b...."), false, 0}, {[]int64{3, 40}, channels8(".a.a.", "b...."), true, 0},
		{[]int64{40}, [][]int64{append(times(39, -1), 0)}, true, 0}, {[]int64{40}, [][]int64{append(times(40, -1), 0)}, false, 0}, {[]int64{40}, channels8("a" + strings.Repeat(".", 119)), false, 0}, {[]int64{40}, channels8("a"+strings.Repeat(".", 119), strings.Repeat(".", 40)+"a"+strings.Repeat(".", 79), strings.Repeat(".", 80)+"a"+strings.Repeat(".", 39)), true, 0}, {[]int64{40}, channels8("a"+strings.Repeat(".", 119), strings.Repeat(".", 40)+"a"+strings.Repeat(".", 79), strings.Repeat(".", 81)+"a"+strings.Repeat(".", 38)), false, 0},
		// Tasks without a turn, first, in the middle, and last.
		{[]int64{40, 40}, channels8("b", "."), false, 0}, {[]int64{40, 40, 40}, channels8("a", "c"), false, 0}, {[]int64{40, 40, 40}, channels8("a", "b"), false, 0},
		// Clashes, of tasks that are served and others, ahead of all answers.
		{[]int64{1}, channels8("a", "a"), false, impl.ErrState}, {[]int64{2, 2}, channels8("aa", "ba"), false, impl.ErrState}, {[]int64{2, 2}, channels8("ab", ".b"), false, impl.ErrState}, {[]int64{1, 1}, channels8(".b", ".b"), false, impl.ErrState}, {times(8, 40), channels8("h", "a", "b", "h"), false, impl.ErrState}, {[]int64{2, 2}, channels8(strings.Repeat("ab", 60), strings.Repeat("b", 119)+"b"), false, impl.ErrState},
	}
	for _, c := range cases {
		if serve, code := impl.ServeTogether(tasksOf(c.gaps...), c.list); serve != c.want || code != c.wantErr {
			t.Errorf("ServeTogether(%v, %v) = %v, %d, not %v, %d", c.gaps, c.list, serve, code, c.want, c.wantErr)
		}
	}
}

func TestWaitsTogether(t *testing.T) {
	cases := []struct {
		k       int64
		list    [][]int64
		i, want int64
	}{
		{3, channels8("aa", "bc"), 0, 1}, {3, channels8("aa", "bc"), 1, 2}, {3, channels8("aa", "bc"), 2, 2}, {1, channels8("a"), 0, 1}, {1, channels8("."), 0, 0}, {8, idle8(4, 120), 7, 0}, {2, channels8("a"), 1, 0}, {1, channels8("a.", ".a"), 0, 1},
		// One turn: all slots.
		{1, channels8("...", ".a."), 0, 3}, {8, channels8(strings.Repeat(".", 120), "h"+strings.Repeat(".", 119)), 7, 120}, {8, channels8(strings.Repeat(".", 119) + "h"), 7, 120},
		// Round the end, and not; on one channel, and from one to another one.
		{2, channels8("a..a.", "b...."), 0, 3}, {2, channels8("a.a..", "....b"), 0, 3}, {2, channels8("..a.a", "b...."), 0, 3}, {1, channels8("a.....", "...a.."), 0, 3}, {1, channels8("a.....", "....a."), 0, 4}, {1, channels8(".a....", "..a..."), 0, 5}, {2, channels8("b..a..", ".a...."), 0, 4}, {3, channels8("a...", ".b..", "..c.", "...a"), 0, 3}, {3, channels8("a...", ".b..", "..a.", "...a"), 0, 2},
		// Clashes are one slot with a turn.
		{1, channels8("a..", "a.."), 0, 3}, {1, channels8("a", "a", "a", "a"), 0, 1}, {2, channels8("ab.", "ab.", ".b."), 1, 3}, {2, channels8("ab..", "a.b."), 1, 3},
		{1, [][]int64{times(120, 0), times(120, 0), times(120, 0), times(120, 0)}, 0, 1},
	}
	for _, c := range cases {
		if wait, code := impl.WaitsTogether(c.k, c.list, c.i); wait != c.want || code != impl.ErrNone {
			t.Errorf("WaitsTogether(%d, %v, %d) = %d, %d, not %d", c.k, c.list, c.i, wait, code, c.want)
		}
	}
	eachChannels8(func(k int64, list [][]int64) {
		for i := range k {
			if wait, code := impl.WaitsTogether(k, list, i); wait != wait8(list, i) || code != impl.ErrNone {
				t.Errorf("WaitsTogether(%d, %v, %d) = %d, %d, not %d", k, list, i, wait, code, wait8(list, i))
			}
		}
	})
	// One channel alone: the greatest waits of chapter 1.
	longTurns(func(turns []int64) {
		waits, _ := impl.GreatestWaits(turns)
		for i, want := range append(waits, times(8-len(waits), 0)...) {
			if wait, code := impl.WaitsTogether(8, [][]int64{turns}, int64(i)); wait != want || code != impl.ErrNone {
				t.Errorf("WaitsTogether(8, %v, %d) = %d, %d, not %d", turns, i, wait, code, want)
			}
		}
	})
}

func TestHandOvers(t *testing.T) {
	cases := []struct {
		k       int64
		list    [][]int64
		i, want int64
		wantErr int64
	}{
		{2, channels8("ab", "ba"), 0, 2, 0}, {2, channels8("ab", "ba"), 1, 2, 0}, {2, channels8("aa", "bb"), 0, 0, 0}, {2, channels8("aa", "bb"), 1, 0, 0},
		// One turn only, and none.
		{1, channels8("a"), 0, 0, 0}, {1, channels8("a", "."), 0, 0, 0}, {2, channels8("..b", "a.."), 0, 0, 0}, {2, channels8("..b", "a.."), 1, 0, 0}, {1, channels8("."), 0, 0, 0}, {8, idle8(4, 120), 7, 0, 0}, {3, channels8("ab", "ba"), 2, 0, 0},
		// Round the end, and not.
		{1, channels8("aa.", "..a"), 0, 2, 0}, {1, channels8("a.a", ".a."), 0, 2, 0}, {1, channels8("a..", ".aa"), 0, 2, 0}, {1, channels8("a.a.", ".a.a"), 0, 4, 0}, {1, channels8("a..a", ".aa."), 0, 2, 0}, {1, channels8("a....", "...a."), 0, 2, 0}, {1, channels8("a..", ".a.", "..a"), 0, 3, 0}, {1, channels8("a...", ".a..", "..a.", "...a"), 0, 4, 0}, {1, channels8("a....", ".a...", "..a.a", "...a."), 0, 5, 0}, {2, channels8("ab.a.", "b...a"), 0, 2, 0}, {2, channels8("ab.a.", "b...a"), 1, 2, 0}, {3, channels8("a.c", ".b.", "c.."), 2, 2, 0},
		{2, channels8(strings.Repeat("ab", 60), strings.Repeat("ba", 60)), 1, 120, 0}, {2, channels8(strings.Repeat("a", 120), strings.Repeat("b", 120)), 1, 0, 0}, {2, channels8("a"+strings.Repeat("b", 119), strings.Repeat(".", 119)+"a"), 0, 2, 0},
		// Clashes, of the task itself and of others.
		{1, channels8("a", "a"), 0, 0, impl.ErrState}, {2, channels8("ab", "bb"), 0, 0, impl.ErrState}, {2, channels8("ab", "bb"), 1, 0, impl.ErrState}, {3, channels8("ab", "ba", "bc"), 2, 0, impl.ErrState}, {3, channels8("b", ".", ".", "b"), 2, 0, impl.ErrState},
	}
	for _, c := range cases {
		if count, code := impl.HandOvers(c.k, c.list, c.i); count != c.want || code != c.wantErr {
			t.Errorf("HandOvers(%d, %v, %d) = %d, %d, not %d, %d", c.k, c.list, c.i, count, code, c.want, c.wantErr)
		}
	}
	counts, codes := map[int64]int{}, map[int64]int{}
	eachChannels8(func(k int64, list [][]int64) {
		wantErr := int64(impl.ErrNone)
		if len(clashes8(k, list)) > 0 {
			wantErr = impl.ErrState
		}
		for i := range k {
			want := int64(0)
			if wantErr == impl.ErrNone {
				want = handOvers8(list, i)
				counts[min(want, 4)]++
			}
			codes[wantErr]++
			if count, code := impl.HandOvers(k, list, i); count != want || code != wantErr {
				t.Errorf("HandOvers(%d, %v, %d) = %d, %d, not %d, %d", k, list, i, count, code, want, wantErr)
			}
		}
	})
	if codes[impl.ErrNone] < 1000 || codes[impl.ErrState] < 1000 || counts[0] < 100 || counts[2] < 100 || counts[3] < 20 || counts[4] < 100 || counts[1] > 0 {
		t.Errorf("only these codes: %v, and these hand overs: %v", codes, counts)
	}
}

// TestServeTogetherAgainstModel has gaps of just the waits, of one less, and others.
func TestServeTogetherAgainstModel(t *testing.T) {
	numbers := rand.New(rand.NewSource(80))
	answers, clashes := map[bool]int{}, 0
	eachChannels8(func(k int64, list [][]int64) {
		var just, any8 []int64
		for i := range k {
			just = append(just, min(max(wait8(list, i), 1), 40))
			any8 = append(any8, 1+numbers.Int63n(5))
		}
		less := slices.Clone(just)
		at := numbers.Intn(int(k))
		less[at] = max(less[at]-1, 1)
		for _, gaps := range [][]int64{just, less, any8, times(int(k), 40)} {
			want, wantErr := serve8(gaps, list), int64(impl.ErrNone)
			if len(clashes8(k, list)) > 0 {
				want, wantErr = false, impl.ErrState
				clashes++
			} else {
				answers[want]++
			}
			if serve, code := impl.ServeTogether(tasksOf(gaps...), list); serve != want || code != wantErr {
				t.Errorf("ServeTogether(%v, %v) = %v, %d, not %v, %d", gaps, list, serve, code, want, wantErr)
			}
		}
	})
	if answers[true] < 500 || answers[false] < 500 || clashes < 1000 {
		t.Errorf("only these answers: %v, and %d clashes", answers, clashes)
	}
}

// fewest8 are gaps with the fewest channels, 0 if there are none.
var fewest8 = []struct {
	gaps []int64
	want int64
}{
	{[]int64{1}, 1}, {[]int64{40}, 1}, {[]int64{1, 2, 2}, 2}, {[]int64{2, 2}, 1}, {[]int64{40, 40}, 1}, {[]int64{1, 40}, 2}, {[]int64{40, 1}, 2}, {[]int64{2, 4, 8, 8}, 1}, {[]int64{5, 5, 5, 5, 5}, 1}, {[]int64{10, 10, 40}, 1},
	{[]int64{2, 3, 6}, 2}, {[]int64{2, 3, 40}, 2}, {[]int64{2, 2, 40}, 2}, {[]int64{3, 3, 3, 3}, 2}, {[]int64{4, 4, 4, 4, 4}, 2}, {[]int64{2, 2, 2}, 2}, {times(4, 2), 2}, {times(5, 2), 3}, {times(6, 2), 3}, {times(7, 2), 4}, {times(8, 2), 4},
	{[]int64{1, 1}, 2}, {[]int64{1, 1, 1}, 3}, {[]int64{1, 1, 40}, 3}, {[]int64{1, 1, 1, 1}, 4}, {[]int64{1, 1, 1, 40, 40}, 4}, {[]int64{1, 1, 1, 2, 2}, 4}, {[]int64{1, 2, 2, 2, 2, 2, 2}, 4}, {[]int64{1, 10, 10, 40}, 2}, {[]int64{40, 1, 10, 10}, 2},
	{[]int64{1, 1, 1, 1, 1}, 0}, {[]int64{1, 1, 1, 1, 40}, 0}, {[]int64{40, 1, 1, 1, 1}, 0}, {[]int64{1, 1, 1, 2, 2, 2}, 0}, {[]int64{1, 2, 2, 2, 2, 2, 2, 2}, 0}, {times(8, 1), 0}, {[]int64{1, 1, 1, 1, 10, 10, 40}, 0},
}

func TestFewestChannels(t *testing.T) {
	for _, c := range fewest8 {
		wantErr := int64(impl.ErrNone)
		if c.want == 0 {
			wantErr = impl.ErrNotFound
		}
		fewest, code := impl.FewestChannels(tasksOf(c.gaps...))
		if fewest != c.want || code != wantErr {
			t.Errorf("FewestChannels(%v) = %d, %d, not %d, %d", c.gaps, fewest, code, c.want, wantErr)
		}
		for m := int64(1); m <= 4; m++ {
			want := c.want > 0 && m >= c.want
			if can, code := impl.CanServeOn(tasksOf(c.gaps...), m); can != want || code != impl.ErrNone {
				t.Errorf("CanServeOn(%v, %d) = %v, %d", c.gaps, m, can, code)
			}
		}
	}
}

func TestLeastPlayOn(t *testing.T) {
	cases := []struct {
		gaps        []int64
		m           int64
		head, round []int64 // no round if there is no play
	}{
		{[]int64{1, 2, 2}, 2, []int64{3}, []int64{5, 3}}, {[]int64{1, 2, 2}, 1, nil, nil}, {[]int64{1, 2, 2}, 3, nil, []int64{1, 7}}, {[]int64{1, 2, 2}, 4, nil, []int64{1, 7}}, {[]int64{2, 1, 2}, 2, []int64{3}, []int64{6, 3}},
		// One task, on as many channels and more.
		{[]int64{1}, 1, nil, []int64{1}}, {[]int64{1}, 4, nil, []int64{1}}, {[]int64{2}, 1, nil, []int64{0, 1}}, {[]int64{2}, 4, nil, []int64{0, 1}}, {[]int64{40}, 1, nil, append(times(39, 0), 1)}, {[]int64{40}, 4, nil, append(times(39, 0), 1)},
		// As many channels as tasks, and more: all of them wait till one is due.
		{[]int64{1, 1}, 1, nil, nil}, {[]int64{1, 1}, 2, nil, []int64{3}}, {[]int64{1, 1}, 3, nil, []int64{3}}, {[]int64{2, 2}, 2, nil, []int64{0, 3}}, {[]int64{2, 2}, 4, nil, []int64{0, 3}}, {[]int64{2, 3}, 2, nil, []int64{0, 1, 2, 1, 0, 3}}, {[]int64{1, 1, 1, 1}, 4, nil, []int64{15}}, {[]int64{1, 1, 1, 1}, 3, nil, nil}, {[]int64{3, 3, 3, 3}, 4, nil, []int64{0, 0, 15}},
		// Heads, of one set and of more, and none.
		{[]int64{2, 2}, 1, []int64{1}, []int64{2, 1}}, {[]int64{2, 2, 2}, 2, []int64{1}, []int64{6, 1}}, {times(8, 2), 4, []int64{15}, []int64{240, 15}}, {[]int64{3, 3, 3}, 1, []int64{1, 2}, []int64{4, 1, 2}}, {[]int64{3, 3, 3}, 2, []int64{0, 1}, []int64{6, 0, 1}}, {[]int64{2, 4, 4}, 1, []int64{1, 2}, []int64{1, 4, 1, 2}},
		{times(8, 1), 4, nil, nil}, {[]int64{2, 3, 6}, 1, nil, nil}, {[]int64{1, 1, 1, 1, 40}, 4, nil, nil},
	}
	for _, c := range cases {
		wantErr := int64(impl.ErrNone)
		if c.round == nil {
			wantErr = impl.ErrNotFound
		}
		head, round, code := impl.LeastPlayOn(tasksOf(c.gaps...), c.m)
		if !slices.Equal(head, c.head) || !slices.Equal(round, c.round) || code != wantErr {
			t.Errorf("LeastPlayOn(%v, %d) = %v, %v, %d, not %v, %v, %d", c.gaps, c.m, head, round, code, c.head, c.round, wantErr)
		}
	}
}

// TestStatesOnChannels compares what comes of states with the model, on all numbers of channels.
func TestStatesOnChannels(t *testing.T) {
	fewest, heads, idles := map[int64]int{}, map[int]int{}, 0
	eachTasks8(func(gaps []int64) {
		tasks, least := tasksOf(gaps...), int64(0)
		for m := 4; m >= 1; m-- {
			x := modelOf8(gaps, m)
			wantErr := int64(impl.ErrNone)
			var wantHead, wantRound []int64
			if x.served() {
				least = int64(m)
				wantHead, wantRound = x.play()
				heads[min(len(wantHead), 3)]++
				if slices.Contains(wantRound, 0) {
					idles++
				}
			} else {
				wantErr = impl.ErrNotFound
			}
			if can, code := impl.CanServeOn(tasks, int64(m)); can != x.served() || code != impl.ErrNone {
				t.Errorf("CanServeOn(%v, %d) = %v, %d", gaps, m, can, code)
			}
			head, round, code := impl.LeastPlayOn(tasks, int64(m))
			if !slices.Equal(head, wantHead) || !slices.Equal(round, wantRound) || code != wantErr {
				t.Errorf("LeastPlayOn(%v, %d) = %v, %v, %d, not %v, %v, %d", gaps, m, head, round, code, wantHead, wantRound, wantErr)
			}
		}
		fewest[least]++
		wantErr := int64(impl.ErrNone)
		if least == 0 {
			wantErr = impl.ErrNotFound
		}
		if m, code := impl.FewestChannels(tasks); m != least || code != wantErr {
			t.Errorf("FewestChannels(%v) = %d, %d, not %d, %d", gaps, m, code, least, wantErr)
		}
	})
	if fewest[0] < 5 || fewest[1] < 100 || fewest[2] < 100 || fewest[3] < 20 || fewest[4] < 10 || heads[0] < 100 || heads[1] < 20 || heads[2] < 20 || heads[3] < 50 || idles < 100 {
		t.Errorf("only these fewest channels: %v, these heads: %v, and %d rounds with idle slots", fewest, heads, idles)
	}
}

// TestOneChannel8: on one channel all is as in chapter 2, with sets in the place of choices.
func TestOneChannel8(t *testing.T) {
	setsOf := func(choices []int64) []int64 {
		var sets []int64
		for _, choice := range choices {
			if choice < 0 {
				sets = append(sets, 0)
			} else {
				sets = append(sets, setOf8(choice))
			}
		}
		return sets
	}
	check := func(gaps []int64) {
		tasks := tasksOf(gaps...)
		wantHead, wantRound, want := impl.LeastPlay(tasks)
		head, round, code := impl.LeastPlayOn(tasks, 1)
		if !slices.Equal(head, setsOf(wantHead)) || !slices.Equal(round, setsOf(wantRound)) || code != want {
			t.Errorf("LeastPlayOn(%v, 1) = %v, %v, %d, but LeastPlay = %v, %v, %d", gaps, head, round, code, wantHead, wantRound, want)
		}
		can, code := impl.CanServeOn(tasks, 1)
		if wantCan, want := impl.CanServe(tasks); can != wantCan || code != want {
			t.Errorf("CanServeOn(%v, 1) = %v, %d", gaps, can, code)
		}
	}
	eachTasks8(check)
	for _, gaps := range manyGaps2 {
		check(gaps)
	}
}

// splits8 are gaps with their first split on some channels, none if there is none.
var splits8 = []struct {
	gaps []int64
	m    int64
	want []int64
}{
	{[]int64{1, 2, 2}, 2, []int64{0, 1, 1}}, {[]int64{1, 2, 2}, 1, nil}, {[]int64{2, 1, 2}, 2, []int64{0, 1, 0}}, {[]int64{2, 2, 1}, 2, []int64{0, 0, 1}}, {[]int64{2, 2, 1}, 4, []int64{0, 0, 1}},
	// One task, and one channel only, however many there are.
	{[]int64{1}, 1, []int64{0}}, {[]int64{1}, 4, []int64{0}}, {[]int64{40}, 2, []int64{0}}, {[]int64{2, 2}, 1, []int64{0, 0}}, {[]int64{2, 2}, 4, []int64{0, 0}}, {[]int64{10, 10, 40}, 3, times(3, 0)}, {times(5, 5), 4, times(5, 0)}, {[]int64{2, 4, 8, 8}, 2, times(4, 0)},
	// All channels.
	{[]int64{1, 1}, 2, []int64{0, 1}}, {[]int64{1, 1}, 1, nil}, {[]int64{1, 1, 1}, 2, nil}, {[]int64{1, 1, 1}, 3, []int64{0, 1, 2}}, {[]int64{1, 1, 1}, 4, []int64{0, 1, 2}}, {[]int64{1, 1, 1, 1}, 4, []int64{0, 1, 2, 3}}, {[]int64{1, 1, 1, 1, 1}, 4, nil}, {times(8, 2), 4, []int64{0, 0, 1, 1, 2, 2, 3, 3}}, {times(8, 2), 3, nil}, {[]int64{1, 40, 1, 40, 1, 1}, 4, nil}, {[]int64{1, 40, 1, 40, 1}, 4, []int64{0, 1, 2, 1, 3}}, {times(8, 1), 4, nil},
	// Several splits, of which the first one counts, and ones that are found only when lists that begin well are
	// given up.
	{[]int64{2, 2, 2}, 2, []int64{0, 0, 1}}, {[]int64{2, 2, 2}, 3, []int64{0, 0, 1}}, {[]int64{2, 3, 6}, 2, []int64{0, 0, 1}}, {[]int64{2, 3, 2}, 2, []int64{0, 0, 1}}, {[]int64{4, 4, 1, 4}, 2, []int64{0, 0, 1, 0}}, {[]int64{3, 2, 2, 3, 3}, 2, []int64{0, 1, 1, 0, 0}}, {[]int64{3, 2, 2, 3, 3}, 3, []int64{0, 0, 1, 1, 2}}, {[]int64{4, 2, 2, 4, 4, 4}, 2, []int64{0, 0, 1, 0, 1, 1}}, {[]int64{6, 3, 2, 2, 3, 6}, 2, []int64{0, 0, 1, 1, 0, 0}},
}

func TestFirstSplit(t *testing.T) {
	for _, c := range splits8 {
		wantErr := int64(impl.ErrNone)
		if c.want == nil {
			wantErr = impl.ErrNotFound
		}
		split, code := impl.FirstSplit(tasksOf(c.gaps...), c.m)
		wantTurns3(t, fmt.Sprint("FirstSplit", c.gaps, c.m), split, c.want, code, wantErr)
	}
	known := alone8{}
	codes, several, used := map[int64]int{}, 0, map[int64]int{}
	eachTasks8(func(gaps []int64) {
		for m := 1; m <= 4; m++ {
			if len(gaps) > 6 && m > 2 {
				continue // the model goes through too many lists
			}
			all, wantErr := known.splits(gaps, m), int64(impl.ErrNone)
			var want []int64
			if len(all) > 0 {
				want = all[0]
				used[slices.Max(want)+1]++
			} else {
				wantErr = impl.ErrNotFound
			}
			if len(all) > 1 {
				several++
			}
			codes[wantErr]++
			split, code := impl.FirstSplit(tasksOf(gaps...), int64(m))
			wantTurns3(t, fmt.Sprint("FirstSplit", gaps, m), split, want, code, wantErr)
		}
	})
	if codes[impl.ErrNone] < 500 || codes[impl.ErrNotFound] < 200 || several < 500 || used[1] < 200 || used[2] < 200 || used[3] < 50 || used[4] < 10 {
		t.Errorf("only these codes: %v, these numbers of channels: %v, and %d with several splits", codes, used, several)
	}
}

func TestPutSets(t *testing.T) {
	cases := []struct {
		k, m int64
		sets []int64
		want [][]int64
	}{
		{3, 2, []int64{3, 5, 6}, channels8("aac", "bcb")},
		// One task, one slot, one channel, and sets with no task.
		{1, 1, []int64{1}, channels8("a")}, {1, 1, []int64{0}, channels8(".")}, {1, 4, []int64{1}, channels8("a", ".", ".", ".")}, {8, 4, []int64{0, 0}, idle8(4, 2)}, {8, 1, []int64{128, 0, 1, 128}, channels8("h.ah")}, {2, 2, []int64{0, 3, 0}, channels8(".a.", ".b.")}, {8, 4, []int64{240}, channels8("e", "f", "g", "h")}, {8, 4, []int64{129}, channels8("a", "h", ".", ".")},
		// A task keeps its channel, also with no other one there, and behind idle slots.
		{2, 2, []int64{3, 2, 1, 2}, channels8("a.a.", "bb.b")}, {2, 2, []int64{3, 0, 0, 2}, channels8("a...", "b..b")}, {3, 3, []int64{7, 4, 2, 6, 1}, channels8("a...a", "b.bb.", "cc.c.")}, {4, 4, []int64{15, 8, 12, 14, 15}, channels8("a...a", "b..bb", "c.ccc", "ddddd")},
		// A greater task that keeps its channel comes ahead of lesser ones that do not.
		{2, 2, []int64{2, 3}, channels8("bb", ".a")}, {2, 2, []int64{2, 0, 0, 3}, channels8("b..b", "...a")}, {3, 2, []int64{4, 5, 1}, channels8("cc.", ".aa")}, {8, 4, []int64{240, 135}, channels8("ea", "fb", "gc", "hh")}, {4, 3, []int64{12, 9, 11}, channels8("caa", "ddd", "..b")},
		// Its channel is taken by a lesser task, and the new channel is the one that it keeps then.
		{3, 2, []int64{3, 4, 5}, channels8("aca", "b.c")}, {3, 2, []int64{3, 4, 5, 4, 6}, channels8("aca.c", "b.ccb")}, {2, 2, []int64{1, 2, 3, 2}, channels8("aba.", "..bb")}, {4, 3, []int64{1, 2, 4, 7}, channels8("abca", "...b", "...c")}, {4, 4, []int64{1, 2, 4, 8, 15, 8}, channels8("abcda.", "....b.", "....c.", "....dd")}, {3, 2, []int64{6, 1, 5, 3}, channels8("baaa", "c.cb")},
		// The least free channel is not always the first one.
		{3, 3, []int64{3, 1, 5, 6}, channels8("aaac", "b.cb", "....")}, {4, 3, []int64{3, 6, 9}, channels8("aca", "bbd", "...")}, {4, 3, []int64{3, 14}, channels8("ac", "bb", ".d")}, {2, 3, []int64{2, 3, 1, 3}, channels8("bb.b", ".aaa", "....")},
	}
	for _, c := range cases {
		if list, code := impl.PutSets(c.k, c.m, c.sets); !sameLists8(list, c.want) || code != impl.ErrNone {
			t.Errorf("PutSets(%d, %d, %v) = %v, %d, not %v", c.k, c.m, c.sets, list, code, c.want)
		}
	}
}

// eachSets8 calls f with sets of up to MaxTurns slots, the same ones on each run: many tasks in each set, and
// few ones.
func eachSets8(f func(k, m int, sets []int64)) {
	numbers := rand.New(rand.NewSource(888))
	for n := range 1500 {
		k, m, size := 1+numbers.Intn(8), 1+numbers.Intn(4), 1+numbers.Intn(12)
		switch n % 10 {
		case 8:
			size = 1 + numbers.Intn(120)
		case 9:
			size = 120
		}
		var sets []int64
		for range size {
			order, count := numbers.Perm(k), min(k, m)
			if n%2 == 0 {
				count = numbers.Intn(count + 1)
			}
			set := int64(0)
			for _, i := range order[:count] {
				set += setOf8(int64(i))
			}
			sets = append(sets, set)
		}
		f(k, m, sets)
	}
}

func TestPutSetsAgainstModel(t *testing.T) {
	kept, taken, again := 0, 0, 0
	eachSets8(func(k, m int, sets []int64) {
		want := put8(m, sets)
		list, code := impl.PutSets(int64(k), int64(m), sets)
		if !sameLists8(list, want) || code != impl.ErrNone {
			t.Errorf("PutSets(%d, %d, %v) = %v, %d, not %v", k, m, sets, list, code, want)
		}
		// The cases that are told apart: a task that keeps its channel, one whose channel is taken by a
		// lesser one, and one that comes again on its channel behind slots without it.
		for i := range int64(k) {
			last, at := -1, -1
			for slot := range sets {
				on := on8(want, slot, i)
				if len(on) == 0 {
					continue
				}
				switch {
				case last < 0:
				case on[0] != last && want[last][slot] < i && want[last][slot] >= 0:
					taken++
				case on[0] != last:
					t.Errorf("the model takes the task %d from its channel: %v", i, want)
				case at < slot-1:
					again++
				default:
					kept++
				}
				last, at = on[0], slot
			}
		}
	})
	if kept < 1000 || taken < 500 || again < 1000 {
		t.Errorf("only %d tasks keep their channels, %d lose them, %d come again", kept, taken, again)
	}
}

// TestPromise8OfSplits: splits can be served on their channels. The rounds of the tasks of each channel, side
// by side, are channels that serve all tasks, and no task is handed over.
func TestPromise8OfSplits(t *testing.T) {
	splits, sideBySide := 0, 0
	check := func(gaps []int64) {
		tasks := tasksOf(gaps...)
		for m := int64(1); m <= 4; m++ {
			split, code := impl.FirstSplit(tasks, m)
			if code != impl.ErrNone {
				continue
			}
			splits++
			if len(split) != len(gaps) || slices.Min(split) < 0 || slices.Max(split) >= m {
				t.Fatalf("FirstSplit(%v, %d) = %v", gaps, m, split)
			}
			if can, code := impl.CanServeOn(tasks, m); !can || code != impl.ErrNone {
				t.Errorf("CanServeOn(%v, %d) = %v, %d, but the split %v", gaps, m, can, code, split)
			}
			if fewest, code := impl.FewestChannels(tasks); fewest < 1 || fewest > slices.Max(split)+1 || code != impl.ErrNone {
				t.Errorf("FewestChannels(%v) = %d, %d, but the split %v", gaps, fewest, code, split)
			}
			list := sideBySide8(t, gaps, split, int(m))
			if len(list[0]) > 120 {
				continue
			}
			sideBySide++
			if serve, code := impl.ServeTogether(tasks, list); !serve || code != impl.ErrNone {
				t.Errorf("ServeTogether(%v, %v) = %v, %d", gaps, list, serve, code)
			}
			for i := range gaps {
				if count, code := impl.HandOvers(int64(len(gaps)), list, int64(i)); count != 0 || code != impl.ErrNone {
					t.Errorf("HandOvers(%v, %d) = %d, %d", list, i, count, code)
				}
			}
		}
	}
	eachTasks8(check)
	for _, gaps := range manyGaps2 {
		check(gaps)
	}
	if splits < 1000 || sideBySide < 900 {
		t.Errorf("only %d splits, %d of them side by side", splits, sideBySide)
	}
}

// sideBySide8 returns the rounds of the tasks of each channel of a split, repeated till all end together.
func sideBySide8(t *testing.T, gaps, split []int64, m int) [][]int64 {
	t.Helper()
	rounds, size := idle8(m, 1), 1
	for channel := range rounds {
		var here, members []int64
		for i, on := range split {
			if on == int64(channel) {
				here, members = append(here, gaps[i]), append(members, int64(i))
			}
		}
		if len(here) == 0 {
			continue
		}
		_, round, code := impl.LeastPlay(tasksOf(here...))
		if can, also := impl.CanServe(tasksOf(here...)); !can || also != impl.ErrNone || code != impl.ErrNone || !serves2(here, round) {
			t.Fatalf("the split %v of %v has tasks on %d that cannot be served", split, gaps, channel)
		}
		for at, who := range round {
			if who >= 0 {
				round[at] = members[who]
			}
		}
		rounds[channel] = round
		whole := size
		for whole%len(round) != 0 {
			whole += size
		}
		size = whole
	}
	for channel, round := range rounds {
		rounds[channel] = slices.Repeat(round, size/len(round))
	}
	return rounds
}

// TestPromise8OfSets: sets put on channels have no clash, and come back from their channels.
func TestPromise8OfSets(t *testing.T) {
	eachSets8(func(k, m int, sets []int64) {
		list, code := impl.PutSets(int64(k), int64(m), sets)
		if !impl.AreChannels(int64(k), list) || len(list) != m || len(list[0]) != len(sets) || code != impl.ErrNone {
			t.Fatalf("PutSets(%d, %d, %v) = %v, %d", k, m, sets, list, code)
		}
		if clashes, code := impl.ClashesOf(int64(k), list); len(clashes) > 0 || code != impl.ErrNone {
			t.Errorf("PutSets(%d, %d, %v) have the clashes %v, %d", k, m, sets, clashes, code)
		}
		for slot, set := range sets {
			back := int64(0)
			for _, turns := range list {
				if turns[slot] >= 0 {
					back += setOf8(turns[slot])
				}
			}
			if back != set {
				t.Errorf("PutSets(%d, %d, %v) = %v have the set %d in the slot %d", k, m, sets, list, back, slot)
			}
		}
	})
}

// TestRoundsOnChannels puts the rounds of least plays on channels: they serve the tasks there.
func TestRoundsOnChannels(t *testing.T) {
	put := map[int64]int{}
	eachTasks8(func(gaps []int64) {
		tasks := tasksOf(gaps...)
		for m := int64(1); m <= 4; m++ {
			_, round, code := impl.LeastPlayOn(tasks, m)
			if code != impl.ErrNone || len(round) > 120 {
				continue
			}
			put[m]++
			list, code := impl.PutSets(int64(len(gaps)), m, round)
			serve, also := impl.ServeTogether(tasks, list)
			if code != impl.ErrNone || !serve || also != impl.ErrNone || !serve8(gaps, list) {
				t.Errorf("the round %v of %v on %d channels, %v, does not serve: %d, %d", round, gaps, m, list, code, also)
			}
		}
	})
	if put[1] < 100 || put[2] < 200 || put[3] < 200 || put[4] < 200 {
		t.Errorf("only these rounds: %v", put)
	}
}

// TestGuarantee8: channels without clashes serve tasks exactly if their waits together are at most the gaps.
func TestGuarantee8(t *testing.T) {
	answers := map[bool]int{}
	numbers := rand.New(rand.NewSource(8888))
	eachChannels8(func(k int64, list [][]int64) {
		if clashes, code := impl.ClashesOf(k, list); len(clashes) > 0 || code != impl.ErrNone {
			return
		}
		var waits []int64
		for i := range k {
			wait, code := impl.WaitsTogether(k, list, i)
			if code != impl.ErrNone {
				t.Fatalf("WaitsTogether(%d, %v, %d): %d", k, list, i, code)
			}
			waits = append(waits, wait)
		}
		for range 4 {
			want, gaps := true, []int64(nil)
			for _, wait := range waits {
				gap := min(max(wait+numbers.Int63n(7)/2-numbers.Int63n(8)/7, 1), 40)
				gaps = append(gaps, gap)
				want = want && wait > 0 && wait <= gap
			}
			answers[want]++
			if serve, code := impl.ServeTogether(tasksOf(gaps...), list); serve != want || code != impl.ErrNone {
				t.Errorf("ServeTogether(%v, %v) = %v, %d, but the waits are %v", gaps, list, serve, code, waits)
			}
		}
	})
	if answers[true] < 500 || answers[false] < 500 {
		t.Errorf("only these answers: %v", answers)
	}
}

// onTasks8 runs a function of tasks and a number of channels, and reports whether all other results are zero
// values.
type onTasks8 struct {
	name string
	run  func(tasks impl.Tasks, m int64) (bool, int64)
}

// calls8 returns the functions that take tasks and a number of channels, and FewestChannels, that takes none.
func calls8() (all []onTasks8, fewest onTasks8) {
	all = []onTasks8{
		{"CanServeOn", func(x impl.Tasks, m int64) (bool, int64) {
			y, code := impl.CanServeOn(x, m)
			return !y, code
		}},
		{"LeastPlayOn", func(x impl.Tasks, m int64) (bool, int64) {
			y, z, code := impl.LeastPlayOn(x, m)
			return len(y) == 0 && len(z) == 0, code
		}},
		{"FirstSplit", func(x impl.Tasks, m int64) (bool, int64) {
			y, code := impl.FirstSplit(x, m)
			return len(y) == 0, code
		}},
	}
	return all, onTasks8{"FewestChannels", func(x impl.Tasks, _ int64) (bool, int64) {
		y, code := impl.FewestChannels(x)
		return y == 0, code
	}}
}

func TestErrorsOfTasks8(t *testing.T) {
	all, fewest := calls8()
	want := func(c onTasks8, code int64, x impl.Tasks, m int64) {
		t.Helper()
		zero, got := c.run(x, m)
		wantCode(t, fmt.Sprint(c.name, x.Gaps, m), got, code, zero)
	}
	tooMany := [][]int64{{6, 23, 29}, {29, 23, 6}, {12, 12, 28}, {1, 1, 1, 1, 6, 23, 29}, {40, 40, 40}, {2, 2, 2, 40, 40}, times(8, 3), times(8, 40)}
	for _, c := range append(all, fewest) {
		for _, bad := range badTasks1() {
			for m := int64(1); m <= 4; m++ {
				want(c, impl.ErrInvalid, bad, m)
			}
			for _, m := range badCounts8(4) {
				want(c, impl.ErrInvalid, bad, m) // tasks come first
			}
		}
		for _, gaps := range tooMany {
			for m := int64(1); m <= 4; m++ {
				want(c, impl.ErrLimit, tasksOf(gaps...), m) // also for tasks that cannot be served
			}
		}
	}
	for _, c := range all {
		for _, gaps := range append(tooMany, []int64{1}, []int64{1, 2, 2}, times(8, 1), []int64{10, 10, 40}) {
			for _, m := range badCounts8(4) {
				want(c, impl.ErrRange, tasksOf(gaps...), m) // ahead of too many states
			}
		}
	}
}

// TestLimits8 has tasks with just MaxTaskStates states, on all numbers of channels. (Some with two more are in
// TestErrorsOfTasks8; 4001 is prime.)
func TestLimits8(t *testing.T) {
	all, fewest := calls8()
	for _, gaps := range [][]int64{{10, 10, 40}, {40, 10, 10}, {20, 20, 10}, {5, 20, 40}, {10, 20, 20, 1}, {5, 5, 4, 40}} {
		for m := int64(1); m <= 4; m++ {
			for _, c := range append(all, fewest) {
				want := int64(impl.ErrNone)
				if m == 1 && slices.Min(gaps) == 1 && c.name == "LeastPlayOn" || m == 1 && slices.Min(gaps) == 1 && c.name == "FirstSplit" {
					want = impl.ErrNotFound
				}
				zero, code := c.run(tasksOf(gaps...), m)
				if code != want || want != impl.ErrNone && !zero {
					t.Errorf("%s of %v, %d: code %d, not %d", c.name, gaps, m, code, want)
				}
			}
		}
	}
	for _, m := range []int64{1, 2, 3, 4} {
		for k := int64(1); k <= 8; k++ {
			var sets []int64
			for n := range int64(120) {
				sets = append(sets, setOf8(n%k))
			}
			if list, code := impl.PutSets(k, m, sets); !sameLists8(list, put8(int(m), sets)) || code != impl.ErrNone {
				t.Errorf("PutSets(%d, %d, %v) = %v, %d", k, m, sets, list, code)
			}
			list, code := impl.PutSets(k, m, append(sets, 0))
			wantCode(t, fmt.Sprint("PutSets of 121 sets", k, m), code, impl.ErrRange, len(list) == 0)
		}
	}
}

// wantChannelCodes8 fails the test if a function that takes channels does not return the code that it should:
// HandOvers has one of its own.
func wantChannelCodes8(t *testing.T, k int64, list [][]int64, i, want, ofHandOvers int64) {
	t.Helper()
	call := fmt.Sprint(k, list, i)
	wait, code := impl.WaitsTogether(k, list, i)
	wantCode(t, "WaitsTogether "+call, code, want, wait == 0)
	count, code := impl.HandOvers(k, list, i)
	wantCode(t, "HandOvers "+call, code, ofHandOvers, count == 0)
}

// TestErrorsOfChannels8: lists and numbers that are not as told come ahead of clashes, and tasks ahead of both.
func TestErrorsOfChannels8(t *testing.T) {
	good := [][][]int64{channels8("a"), channels8("."), channels8("ab", "ba"), idle8(4, 120)}
	clashing := [][][]int64{channels8("a", "a"), channels8("ab", "bb"), channels8("abab", "....", "...b", "bab.")}
	bad := func(k int64, list [][]int64) {
		t.Helper()
		clashes, code := impl.ClashesOf(k, list)
		wantCode(t, fmt.Sprint("ClashesOf ", k, list), code, impl.ErrRange, len(clashes) == 0)
		for _, i := range []int64{0, k - 1, -1, k} {
			wantChannelCodes8(t, k, list, i, impl.ErrRange, impl.ErrRange)
		}
	}
	for k := int64(1); k <= 8; k++ {
		tasks := tasksOf(times(int(k), 40)...)
		for _, list := range badChannels8(k) {
			bad(k, list)
			serve, code := impl.ServeTogether(tasks, list)
			wantCode(t, fmt.Sprint("ServeTogether ", k, list), code, impl.ErrRange, !serve)
		}
		// A clash in the slots ahead of the bad number.
		for _, who := range badPlaces8(k) {
			if who == -1 {
				continue // an idle slot
			}
			list := [][]int64{{0, 0, -1}, {0, -1, who}}
			bad(k, list)
			serve, code := impl.ServeTogether(tasks, list)
			wantCode(t, fmt.Sprint("ServeTogether ", k, list), code, impl.ErrRange, !serve)
		}
	}
	for _, k := range badCounts8(8) {
		for _, list := range slices.Concat(good, clashing, badChannels8(8)) {
			bad(k, list)
		}
	}
	for _, list := range good[:3] {
		for _, i := range badPlaces8(2) {
			wantChannelCodes8(t, 2, list, i, impl.ErrRange, impl.ErrRange)
		}
		wantChannelCodes8(t, 2, list, 0, impl.ErrNone, impl.ErrNone)
		wantChannelCodes8(t, 2, list, 1, impl.ErrNone, impl.ErrNone)
	}
	for _, list := range clashing {
		for _, i := range badPlaces8(5) {
			wantChannelCodes8(t, 5, list, i, impl.ErrRange, impl.ErrRange)
		}
		for i := range int64(5) {
			wantChannelCodes8(t, 5, list, i, impl.ErrNone, impl.ErrState)
		}
	}
	for _, tasks := range badTasks1() {
		for _, list := range slices.Concat(good, clashing, badChannels8(2)) {
			serve, code := impl.ServeTogether(tasks, list)
			wantCode(t, fmt.Sprint("ServeTogether ", tasks, list), code, impl.ErrInvalid, !serve)
		}
	}
}

func TestErrorsOfSets8(t *testing.T) {
	want := func(k, m int64, sets []int64) {
		t.Helper()
		list, code := impl.PutSets(k, m, sets)
		wantCode(t, fmt.Sprint("PutSets ", k, m, sets), code, impl.ErrRange, len(list) == 0)
	}
	some := [][]int64{{0}, {1}, {1, 0, 1}, times(120, 1), nil, {-1}, {2}, {255}}
	for _, sets := range some {
		for _, bad := range badCounts8(8) {
			for _, m := range []int64{1, 4, 0, 5} {
				want(bad, m, sets)
			}
		}
		for _, bad := range badCounts8(4) {
			for _, k := range []int64{1, 8, 0, 9} {
				want(k, bad, sets)
			}
		}
	}
	for k := int64(1); k <= 8; k++ {
		for m := int64(1); m <= 4; m++ {
			// No sets, too many of them, sets below 0, sets with tasks from k on, and sets with more than m tasks.
			for _, sets := range [][]int64{nil, {}, times(121, 0), times(121, 1), times(5000, 0)} {
				want(k, m, sets)
			}
			for _, set := range append([]int64{-1, -2, -128, -256, 1 << k, 1<<k + 1, 1 << 8, 1<<9 - 1, 1 << 16, 1 << 32, 1 << 62}, farNumbers...) {
				for _, sets := range [][]int64{{set}, {0, set}, {set, 0}, append(times(119, 0), set), append([]int64{0, set}, times(118, 1)...)} {
					want(k, m, sets)
				}
			}
			for set := range int64(1) << k {
				if int64(len(members8(set))) > m {
					want(k, m, []int64{set})
					want(k, m, []int64{0, set, 1})
				} else if list, code := impl.PutSets(k, m, []int64{set}); !sameLists8(list, put8(int(m), []int64{set})) || code != impl.ErrNone {
					t.Errorf("PutSets(%d, %d, %d) = %v, %d", k, m, set, list, code)
				}
			}
		}
	}
}

// withSpare8 returns a list of lists that have sentinels in their spare capacity, with one more list in its own.
func withSpare8(list [][]int64) [][]int64 {
	var long [][]int64
	for _, turns := range list {
		long = append(long, withSpare(turns))
	}
	return append(long, times(1, sentinel))[:len(list)]
}

// spareIsWhole8 reports whether a list from withSpare8 has these elements and its sentinels.
func spareIsWhole8(list, want [][]int64) bool {
	for at, turns := range list {
		if !spareIsWhole(turns, want[at]) {
			return false
		}
	}
	return slices.Equal(list[:len(want)+1][len(want)], times(1, sentinel))
}

// TestMemory8 writes over results, and looks whether arguments, and what stands behind their ends, keep what
// they had.
func TestMemory8(t *testing.T) {
	gapsWere, setsWere := []int64{2, 1, 3, 5, 4}, []int64{3, 0, 12, 3, 20}
	listWas, clashingWas := channels8("ab.ed", "bacae"), channels8("ab.ab", "bbcab", "...ad")
	gaps, sets, list, clashing := withSpare(gapsWere), withSpare(setsWere), withSpare8(listWas), withSpare8(clashingWas)
	tasks := impl.Tasks{Gaps: gaps}
	joined := func(lists [][]int64, code int64) []int64 {
		var all []int64
		for at, one := range lists {
			all = append(all, one...)
			// No two lists of one result share memory.
			rest := slices.Concat(lists[at+1:]...)
			overwrite(one)
			if !slices.Equal(rest, slices.Concat(lists[at+1:]...)) {
				t.Errorf("the list %d shares memory with a later one", at)
			}
		}
		return append(all, code)
	}
	calls := map[string]func() []int64{
		"ClashesOf": func() []int64 { return joined(impl.ClashesOf(5, clashing)) },
		"PutSets":   func() []int64 { return joined(impl.PutSets(5, 3, sets)) },
		"LeastPlayOn": func() []int64 {
			head, round, code := impl.LeastPlayOn(tasks, 3)
			return joined([][]int64{head, round}, code)
		},
		"LeastPlayOn, turned round": func() []int64 {
			head, round, code := impl.LeastPlayOn(tasks, 3)
			return joined([][]int64{round, head}, code)
		},
		"FirstSplit": func() []int64 { y, _ := impl.FirstSplit(tasks, 3); return y },
		"the others": func() []int64 {
			wait, a := impl.WaitsTogether(5, list, 0)
			count, b := impl.HandOvers(5, list, 0)
			fewest, c := impl.FewestChannels(tasks)
			_, d := impl.ServeTogether(tasks, list)
			_, e := impl.ServeTogether(tasks, clashing)
			_, f := impl.CanServeOn(tasks, 2)
			impl.AreChannels(5, list)
			return []int64{wait, count, fewest, a, b, c, d, e, f}
		},
	}
	for name, call := range calls {
		first := call()
		kept := slices.Clone(first)
		overwrite(first)
		if len(kept) < 5 || !spareIsWhole(gaps, gapsWere) || !spareIsWhole(sets, setsWere) || !spareIsWhole8(list, listWas) || !spareIsWhole8(clashing, clashingWas) {
			t.Fatalf("%s shares memory with an argument, or changes it: %v", name, kept)
		}
		if !slices.Equal(call(), kept) {
			t.Errorf("%s returns something else on its second call", name)
		}
	}
}

// TestGrowingChannels appends to each channel: nothing of the others changes.
func TestGrowingChannels(t *testing.T) {
	sets := []int64{3, 5, 6, 0, 7}
	want := put8(4, sets)
	list, _ := impl.PutSets(3, 4, sets)
	for at := range list {
		_ = append(list[at], sentinel, sentinel, sentinel)
		if !sameLists8(list, want) {
			t.Fatalf("the channel %d has room in another one", at)
		}
	}
}

// TestNothingGoesOn8: behind the calls nothing goes on, also if many of them are made at once.
func TestNothingGoesOn8(t *testing.T) {
	before := runtime.NumGoroutine()
	var all sync.WaitGroup
	for n := range 40 {
		all.Go(func() {
			c := fewest8[n%len(fewest8)]
			for range 10 {
				fewest, _ := impl.FewestChannels(tasksOf(c.gaps...))
				if fewest != c.want {
					t.Errorf("FewestChannels(%v) = %d, not %d", c.gaps, fewest, c.want)
				}
				impl.CanServeOn(tasksOf(c.gaps...), 2)
				impl.LeastPlayOn(tasksOf(c.gaps...), 3)
			}
		})
	}
	all.Wait()
	// Those that have told that they are done may take a moment till they are gone.
	for tries := 0; tries < 1000000 && runtime.NumGoroutine() > before; tries++ {
		runtime.Gosched()
	}
	if behind := runtime.NumGoroutine(); behind > before {
		t.Errorf("%d goroutines behind the calls, %d before them", behind, before)
	}
}
