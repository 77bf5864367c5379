package tests

import (
	"fmt"
	"math/rand"
	"slices"
	"testing"

	"loop.example/g01404/impl"
)

// rows5 returns classes as a list.
func rows5(list ...impl.Class) []impl.Class {
	return list
}

// gaps5 returns the gaps of classes.
func gaps5(list []impl.Class) []int64 {
	var gaps []int64
	for _, class := range list {
		gaps = append(gaps, class[1])
	}
	return gaps
}

// counts5 walks through each class and tells for each slot how many of them have it.
func counts5(list []impl.Class, until int64) []int {
	counts := make([]int, until)
	for _, class := range list {
		for slot := class[0]; slot < until; slot += class[1] {
			counts[slot]++
		}
	}
	return counts
}

// meet5 looks for a slot of one class, over a time in which both come again, in the other one.
func meet5(a, b impl.Class) bool {
	for slot := a[0]; slot < a[1]*b[1]; slot += a[1] {
		if slot >= b[0] && (slot-b[0])%b[1] == 0 {
			return true
		}
	}
	return false
}

// apart5 looks at all pairs.
func apart5(list []impl.Class) bool {
	for j := range list {
		for i := range j {
			if meet5(list[i], list[j]) {
				return false
			}
		}
	}
	return true
}

// uncovered5 returns the first slot that nobody has, -1 if there is none, for a span that is not too
// great.
func uncovered5(list []impl.Class) int64 {
	return int64(slices.Index(counts5(list, multiple3(gaps5(list))), 0))
}

// turns5 makes turns slot by slot from classes that are apart.
func turns5(list []impl.Class) []int64 {
	turns := times(int(multiple3(gaps5(list))), -1)
	for slot := range turns {
		for i, class := range list {
			if int64(slot)%class[1] == class[0] {
				turns[slot] = int64(i)
			}
		}
	}
	return turns
}

// classesOfTurns5 tries for each task the gaps one by one, over so many rounds that each of them
// comes out even.
func classesOfTurns5(turns []int64, k int64) ([]impl.Class, int64) {
	var list []impl.Class
	code := int64(impl.ErrNone)
	for i := range k {
		class, found := classOfTask5(turns, i)
		if !found {
			return nil, impl.ErrNotFound
		}
		if class[1] > 40 {
			code = impl.ErrLimit
		}
		list = append(list, class)
	}
	if code != impl.ErrNone {
		return nil, code
	}
	return list, impl.ErrNone
}

func classOfTask5(turns []int64, i int64) (impl.Class, bool) {
	size := int64(len(turns))
	rest := int64(slices.Index(turns, i))
gaps:
	for gap := int64(1); gap <= size && rest >= 0; gap++ {
		for slot := range size * gap {
			if (slot%gap == rest%gap) != (turns[slot%size] == i) {
				continue gaps
			}
		}
		return impl.Class{rest, gap}, true
	}
	return impl.Class{}, false
}

// rests5 goes through all lists of rests in lexicographic order, and returns the first one for which
// classes are apart, as classes, and how many there are.
func rests5(gaps []int64) ([]impl.Class, int64) {
	var first []impl.Class
	count := int64(0)
	list := make([]impl.Class, len(gaps))
	for i, gap := range gaps {
		list[i][1] = gap
	}
	for at := 0; at >= 0; {
		if apart5(list) {
			if count == 0 {
				first = slices.Clone(list)
			}
			count++
		}
		for at = len(list) - 1; at >= 0; at-- {
			list[at][0]++
			if list[at][0] < gaps[at] {
				break
			}
			list[at][0] = 0
		}
	}
	return first, count
}

// split5 splits a class, class by class.
func split5(list []impl.Class, i, m int64) []impl.Class {
	var split []impl.Class
	for n, class := range list {
		if int64(n) != i {
			split = append(split, class)
			continue
		}
		for rest := class[0]; rest < m*class[1]; rest += class[1] {
			split = append(split, impl.Class{rest, m * class[1]})
		}
	}
	return split
}

// sorted5 returns classes in the order of their rests and gaps.
func sorted5(list []impl.Class) []impl.Class {
	return slices.SortedFunc(slices.Values(list), func(a, b impl.Class) int { return slices.Compare(a[:], b[:]) })
}

// key5 is the same text for the same classes in any order.
func key5(list []impl.Class) string {
	return fmt.Sprint(sorted5(list))
}

// allNatural5 makes all natural classes from one class by splits, once for all orders, in the order
// in which they are found.
func allNatural5() [][]impl.Class {
	all := [][]impl.Class{{{0, 1}}}
	seen := map[string]bool{key5(all[0]): true}
	for at := 0; at < len(all); at++ {
		for i, class := range all[at] {
			for m := int64(2); m <= int64(9-len(all[at])) && m*class[1] <= 40; m++ {
				split := sorted5(split5(all[at], int64(i), m))
				if !seen[key5(split)] {
					seen[key5(split)] = true
					all = append(all, split)
				}
			}
		}
	}
	return all
}

// allExact5 finds all exact classes, once for all orders: gaps that ascend and whose parts of all slots
// come out even, and rests for which they are apart.
func allExact5() [][]impl.Class {
	const whole = 5342931457063200 // all gaps divide it
	var all [][]impl.Class
	var place func(gaps []int64, list []impl.Class)
	place = func(gaps []int64, list []impl.Class) {
		if len(list) == len(gaps) {
			all = append(all, slices.Clone(list))
			return
		}
		gap := gaps[len(list)]
		for rest := range gap {
			if last := len(list) - 1; last >= 0 && list[last][1] == gap && list[last][0] >= rest {
				continue
			}
			if next := append(slices.Clone(list), impl.Class{rest, gap}); apart5(next) {
				place(gaps, next)
			}
		}
	}
	var choose func(gaps []int64, from, left int64)
	choose = func(gaps []int64, from, left int64) {
		if left == 0 {
			place(gaps, nil)
			return
		}
		for gap := from; gap <= 40 && whole/gap*int64(8-len(gaps)) >= left; gap++ {
			if whole/gap <= left {
				choose(append(slices.Clone(gaps), gap), gap, left-whole/gap)
			}
		}
	}
	choose(nil, 1, whole)
	return all
}

// eachClasses5 calls f with classes: short lists with small gaps, natural ones, some of these with a
// class that is missing, changed or there twice, and others, the same ones on each run.
func eachClasses5(f func(list []impl.Class)) {
	classes := func(most int64) []impl.Class {
		var list []impl.Class
		for gap := int64(1); gap <= most; gap++ {
			for rest := range gap {
				list = append(list, impl.Class{rest, gap})
			}
		}
		return list
	}
	for _, a := range classes(40) {
		f(rows5(a))
	}
	for _, a := range classes(6) {
		for _, b := range classes(8) {
			f(rows5(a, b))
		}
	}
	for _, a := range classes(3) {
		for _, b := range classes(4) {
			for _, c := range classes(4) {
				f(rows5(a, b, c))
			}
		}
	}
	otherClasses5(f)
}

func otherClasses5(f func(list []impl.Class)) {
	numbers := rand.New(rand.NewSource(5))
	any5 := func(span int64) impl.Class {
		gap := 1 + numbers.Int63n(40)
		for span%gap != 0 || gap == 1 {
			gap = 1 + numbers.Int63n(40)
		}
		return impl.Class{numbers.Int63n(gap), gap}
	}
	for _, list := range allNatural5() {
		numbers.Shuffle(len(list), func(i, j int) { list[i], list[j] = list[j], list[i] })
		f(slices.Clone(list))
		at := numbers.Intn(len(list))
		if len(list) > 1 {
			f(slices.Delete(slices.Clone(list), at, at+1))
		}
		if len(list) < 8 {
			f(append(slices.Clone(list), list[at]))
		}
		changed := slices.Clone(list)
		changed[at] = any5(changed[at][1] * 12)
		f(changed)
	}
	for range 3000 {
		span := []int64{8, 12, 24, 30, 36, 40, 60, 72, 90, 120, 120, 126, 128 * 27, 36 * 35, 24 * 25 * 7}[numbers.Intn(15)]
		apart := numbers.Intn(3) > 0
		var list []impl.Class
		for range 1 + numbers.Intn(8) {
			next := append(slices.Clone(list), any5(span))
			if !apart || apart5(next) {
				list = next
			}
		}
		f(list)
	}
}

// badClasses5 are lists that are no classes.
func badClasses5() [][]impl.Class {
	bad := [][]impl.Class{nil, {}, slices.Repeat(rows5(impl.Class{0, 1}), 9), slices.Repeat(rows5(impl.Class{0, 9}), 9), slices.Repeat(rows5(impl.Class{3, 40}), 1000)}
	rows := []impl.Class{
		{0, 0}, {0, -1}, {-1, -1}, {-1, 0}, {-2, -1}, {0, 41}, {40, 41}, {1, 41}, {0, 42}, {0, 256}, {0, 257}, {-1, 1}, {1, 1}, {-1, 5}, {5, 5}, {6, 5}, {-1, 40}, {40, 40}, {41, 40}, {-5, 5}, {256, 5}, {3, 2}, {0, -5}, {-3, -5}, {41, 41}, {0, 120}, {2, 1},
	}
	for _, far := range farNumbers {
		rows = append(rows, impl.Class{far, 5}, impl.Class{0, far}, impl.Class{far, far}, impl.Class{1, far}, impl.Class{far, 0})
	}
	for _, row := range rows {
		good := impl.Class{0, 2}
		bad = append(bad, rows5(row), rows5(good, row), rows5(row, good), append(slices.Repeat(rows5(good), 7), row))
	}
	return bad
}

// wide5 are classes with spans greater than 100000, whether they are apart or not, and would cover or not.
var wide5 = [][]impl.Class{
	{{0, 25}, {0, 23}, {0, 29}, {0, 6}}, {{0, 1}, {0, 25}, {0, 23}, {0, 29}, {0, 6}}, {{0, 2}, {1, 2}, {0, 25}, {0, 23}, {0, 29}, {0, 3}}, {{0, 4}, {1, 25}, {6, 7}, {10, 11}, {12, 13}},
	{{0, 40}, {0, 39}, {0, 37}, {0, 31}, {0, 29}, {0, 23}, {0, 19}, {0, 17}}, {{39, 40}, {38, 39}, {36, 37}, {30, 31}, {28, 29}, {22, 23}, {18, 19}, {16, 17}}, {{0, 1}, {0, 40}, {0, 39}, {0, 37}, {0, 31}, {0, 29}, {0, 23}, {0, 19}},
	{{0, 2}, {1, 4}, {3, 8}, {7, 16}, {15, 32}, {31, 38}, {23, 34}, {5, 26}},
}

// wantClasses5 fails the test if a call did not return the classes and the code.
func wantClasses5(t *testing.T, call string, list, want []impl.Class, code, wantErr int64) {
	t.Helper()
	if !slices.Equal(list, want) || code != wantErr {
		t.Errorf("%s = %v, %d, not %v, %d", call, list, code, want, wantErr)
	}
}

func TestConstants5(t *testing.T) {
	if impl.MaxClasses != 8 || impl.MaxRests != 5 {
		t.Errorf("limits %d, %d", impl.MaxClasses, impl.MaxRests)
	}
	if (impl.Class{3, 7}) != (impl.Class{3, 7}) || (impl.Class{3, 7}) == (impl.Class{4, 7}) || [2]int64(impl.Class{3, 7}) != [2]int64{3, 7} {
		t.Errorf("classes are not arrays of a rest and a gap")
	}
}

func TestAreClasses(t *testing.T) {
	good := [][]impl.Class{{{0, 1}}, {{0, 40}}, {{39, 40}}, {{0, 2}, {1, 2}}, {{0, 2}, {0, 2}}, {{0, 2}, {0, 3}}, slices.Repeat(rows5(impl.Class{0, 1}), 8), slices.Repeat(rows5(impl.Class{39, 40}), 8)}
	for _, list := range append(good, wide5...) {
		if !impl.AreClasses(list) {
			t.Errorf("AreClasses(%v) = false", list)
		}
	}
	for _, list := range badClasses5() {
		if impl.AreClasses(list) {
			t.Errorf("AreClasses(%v) = true", list)
		}
	}
	for n := int64(-90); n <= 90; n++ {
		for rest := int64(-90); rest <= 90; rest++ {
			if want := n >= 1 && n <= 40 && rest >= 0 && rest <= n-1; impl.AreClasses(rows5(impl.Class{rest, n})) != want {
				t.Errorf("AreClasses with the rest %d and the gap %d is not %v", rest, n, want)
			}
		}
	}
	for count := range 20 {
		if impl.AreClasses(slices.Repeat(rows5(impl.Class{1, 2}), count)) != (count >= 1 && count <= 8) {
			t.Errorf("AreClasses with %d classes is wrong", count)
		}
	}
}

func TestAreApart(t *testing.T) {
	cases := []struct {
		list []impl.Class
		want bool
	}{
		{rows5(impl.Class{0, 1}), true}, {rows5(impl.Class{39, 40}), true}, {rows5(impl.Class{0, 2}, impl.Class{1, 2}), true}, {rows5(impl.Class{0, 2}, impl.Class{1, 4}, impl.Class{3, 4}), true}, {rows5(impl.Class{3, 4}, impl.Class{0, 2}), true},
		// The same class twice, one inside another one, and gaps that do not fit.
		{rows5(impl.Class{0, 1}, impl.Class{0, 1}), false}, {rows5(impl.Class{3, 7}, impl.Class{3, 7}), false}, {rows5(impl.Class{0, 2}, impl.Class{2, 4}), false}, {rows5(impl.Class{2, 4}, impl.Class{0, 2}), false}, {rows5(impl.Class{0, 1}, impl.Class{39, 40}), false}, {rows5(impl.Class{0, 2}, impl.Class{1, 3}), false}, {rows5(impl.Class{39, 40}, impl.Class{5, 39}), false}, {rows5(impl.Class{1, 37}, impl.Class{5, 31}), false},
		// Some slot far from the first ones is in both.
		{rows5(impl.Class{0, 6}, impl.Class{1, 4}), true}, {rows5(impl.Class{0, 6}, impl.Class{2, 4}), false}, {rows5(impl.Class{5, 6}, impl.Class{1, 10}), false}, {rows5(impl.Class{5, 6}, impl.Class{0, 10}), true}, {rows5(impl.Class{0, 38}, impl.Class{39, 40}), true}, {rows5(impl.Class{1, 38}, impl.Class{39, 40}), false}, {rows5(impl.Class{0, 36}, impl.Class{38, 40}), true}, {rows5(impl.Class{0, 36}, impl.Class{36, 40}), false},
		{rows5(impl.Class{0, 6}, impl.Class{1, 10}, impl.Class{2, 15}), true}, {rows5(impl.Class{0, 6}, impl.Class{1, 10}, impl.Class{1, 15}), false}, {rows5(impl.Class{0, 6}, impl.Class{1, 10}, impl.Class{3, 15}), false},
		{rows5(impl.Class{0, 8}, impl.Class{1, 8}, impl.Class{2, 8}, impl.Class{3, 8}, impl.Class{4, 8}, impl.Class{5, 8}, impl.Class{6, 8}, impl.Class{7, 8}), true}, {rows5(impl.Class{0, 8}, impl.Class{1, 8}, impl.Class{2, 8}, impl.Class{3, 8}, impl.Class{4, 8}, impl.Class{5, 8}, impl.Class{6, 8}, impl.Class{6, 8}), false}, {rows5(impl.Class{7, 8}, impl.Class{1, 8}, impl.Class{2, 8}, impl.Class{3, 8}, impl.Class{4, 8}, impl.Class{5, 8}, impl.Class{6, 8}, impl.Class{7, 8}), false},
	}
	for _, c := range cases {
		if yes, code := impl.AreApart(c.list); yes != c.want || code != impl.ErrNone {
			t.Errorf("AreApart(%v) = %v, %d", c.list, yes, code)
		}
	}
	apart, other := 0, 0
	check := func(list []impl.Class) {
		want := apart5(list)
		if yes, code := impl.AreApart(list); yes != want || code != impl.ErrNone {
			t.Errorf("AreApart(%v) = %v, %d, not %v", list, yes, code, want)
		}
		if want {
			apart++
		} else {
			other++
		}
	}
	eachClasses5(check)
	for _, list := range wide5 {
		check(list)
	}
	for n := int64(1); n <= 40; n++ {
		for m := int64(1); m <= 40; m++ {
			check(rows5(impl.Class{0, n}, impl.Class{m / 2, m}))
			check(rows5(impl.Class{n / 3, n}, impl.Class{m - 1, m}))
		}
	}
	if apart < 3000 || other < 3000 {
		t.Errorf("only %d classes are apart, %d are not", apart, other)
	}
}

// TestCover has the first slot that no class has, -1 if they cover.
func TestCover(t *testing.T) {
	cases := []struct {
		list []impl.Class
		want int64
	}{
		{rows5(impl.Class{0, 1}), -1}, {rows5(impl.Class{0, 2}), 1}, {rows5(impl.Class{1, 2}), 0}, {rows5(impl.Class{39, 40}), 0}, {rows5(impl.Class{0, 40}), 1}, {rows5(impl.Class{0, 2}, impl.Class{1, 2}), -1}, {rows5(impl.Class{1, 2}, impl.Class{0, 2}), -1}, {rows5(impl.Class{0, 1}, impl.Class{0, 1}), -1},
		{rows5(impl.Class{0, 2}, impl.Class{1, 4}), 3}, {rows5(impl.Class{0, 2}, impl.Class{1, 4}, impl.Class{3, 8}, impl.Class{7, 16}, impl.Class{15, 32}), 31}, {rows5(impl.Class{15, 32}, impl.Class{7, 16}, impl.Class{3, 8}, impl.Class{1, 4}, impl.Class{0, 2}), 31}, {rows5(impl.Class{0, 2}, impl.Class{1, 4}, impl.Class{3, 8}, impl.Class{7, 16}, impl.Class{15, 32}, impl.Class{31, 32}), -1},
		// Apart, but they do not cover; they cover, but are not apart; and neither.
		{rows5(impl.Class{0, 4}, impl.Class{1, 4}, impl.Class{2, 4}), 3}, {rows5(impl.Class{0, 2}, impl.Class{0, 3}, impl.Class{1, 4}, impl.Class{5, 6}, impl.Class{7, 12}), -1}, {rows5(impl.Class{0, 2}, impl.Class{0, 3}, impl.Class{1, 4}, impl.Class{5, 6}, impl.Class{8, 12}), 7}, {rows5(impl.Class{0, 2}, impl.Class{1, 2}, impl.Class{0, 2}), -1}, {rows5(impl.Class{0, 2}, impl.Class{0, 3}), 1}, {rows5(impl.Class{1, 2}, impl.Class{0, 3}, impl.Class{2, 4}, impl.Class{4, 6}, impl.Class{8, 12}), -1}, {rows5(impl.Class{0, 3}, impl.Class{0, 4}, impl.Class{0, 5}, impl.Class{1, 6}, impl.Class{1, 2}), 2},
		{rows5(impl.Class{0, 8}, impl.Class{1, 8}, impl.Class{2, 8}, impl.Class{3, 8}, impl.Class{4, 8}, impl.Class{5, 8}, impl.Class{6, 8}, impl.Class{7, 8}), -1}, {rows5(impl.Class{0, 8}, impl.Class{1, 8}, impl.Class{2, 8}, impl.Class{3, 8}, impl.Class{4, 8}, impl.Class{5, 8}, impl.Class{6, 8}, impl.Class{7, 9}), 15},
		// A span of 99900, the greatest one that gaps can have of at most 100000.
		{rows5(impl.Class{0, 27}, impl.Class{0, 37}, impl.Class{0, 25}, impl.Class{0, 4}), 1}, {rows5(impl.Class{0, 27}, impl.Class{0, 37}, impl.Class{0, 25}, impl.Class{0, 4}, impl.Class{0, 1}), -1}, {rows5(impl.Class{1, 27}, impl.Class{2, 37}, impl.Class{3, 25}, impl.Class{0, 4}), 5}, {rows5(impl.Class{26, 27}, impl.Class{36, 37}, impl.Class{24, 25}, impl.Class{0, 4}, impl.Class{1, 4}, impl.Class{2, 4}, impl.Class{3, 4}), -1},
	}
	for _, c := range cases {
		checkCover5(t, c.list, c.want)
	}
	covering, open := 0, 0
	eachClasses5(func(list []impl.Class) {
		want := uncovered5(list)
		checkCover5(t, list, want)
		if want < 0 {
			covering++
		} else {
			open++
		}
	})
	if covering < 3000 || open < 3000 {
		t.Errorf("only %d classes cover, %d do not", covering, open)
	}
	// 100050 is the least span that gaps can have of more than 100000.
	for _, list := range wide5 {
		yes, code := impl.DoCover(list)
		wantCode(t, fmt.Sprint("DoCover", list), code, impl.ErrLimit, !yes)
		slot, code := impl.FirstUncovered(list)
		wantCode(t, fmt.Sprint("FirstUncovered", list), code, impl.ErrLimit, slot == 0)
	}
}

// checkCover5 looks at what both functions say of a first slot that no class has, -1 for none.
func checkCover5(t *testing.T, list []impl.Class, want int64) {
	t.Helper()
	if yes, code := impl.DoCover(list); yes != (want < 0) || code != impl.ErrNone {
		t.Errorf("DoCover(%v) = %v, %d", list, yes, code)
	}
	slot, code := impl.FirstUncovered(list)
	if want < 0 {
		wantCode(t, fmt.Sprint("FirstUncovered", list), code, impl.ErrNotFound, slot == 0)
	} else if slot != want || code != impl.ErrNone {
		t.Errorf("FirstUncovered(%v) = %d, %d, not %d", list, slot, code, want)
	}
}

func TestAreExact(t *testing.T) {
	cases := []struct {
		list []impl.Class
		want bool
	}{
		{rows5(impl.Class{0, 1}), true}, {rows5(impl.Class{0, 2}), false}, {rows5(impl.Class{0, 2}, impl.Class{1, 2}), true}, {rows5(impl.Class{0, 2}, impl.Class{1, 4}, impl.Class{3, 4}), true}, {rows5(impl.Class{3, 4}, impl.Class{0, 2}, impl.Class{1, 4}), true}, {rows5(impl.Class{0, 2}, impl.Class{1, 4}), false},
		// They cover and are not apart, with densities of more than 1, or have the density 1 and do neither.
		{rows5(impl.Class{0, 1}, impl.Class{0, 1}), false}, {rows5(impl.Class{0, 1}, impl.Class{0, 40}), false}, {rows5(impl.Class{0, 2}, impl.Class{0, 3}, impl.Class{1, 4}, impl.Class{5, 6}, impl.Class{7, 12}), false}, {rows5(impl.Class{0, 2}, impl.Class{0, 2}), false}, {rows5(impl.Class{0, 2}, impl.Class{0, 3}, impl.Class{1, 6}), false}, {rows5(impl.Class{0, 2}, impl.Class{1, 4}, impl.Class{1, 4}), false}, {rows5(impl.Class{0, 2}, impl.Class{1, 4}, impl.Class{2, 4}), false},
		{rows5(impl.Class{0, 8}, impl.Class{1, 8}, impl.Class{2, 8}, impl.Class{3, 8}, impl.Class{4, 8}, impl.Class{5, 8}, impl.Class{6, 8}, impl.Class{7, 8}), true}, {rows5(impl.Class{0, 8}, impl.Class{1, 8}, impl.Class{2, 8}, impl.Class{3, 8}, impl.Class{4, 8}, impl.Class{5, 8}, impl.Class{6, 8}, impl.Class{7, 9}), false}, {rows5(impl.Class{0, 5}, impl.Class{1, 5}, impl.Class{2, 5}, impl.Class{3, 5}, impl.Class{4, 40}), false},
		{rows5(impl.Class{0, 2}, impl.Class{1, 6}, impl.Class{3, 6}, impl.Class{5, 30}, impl.Class{11, 30}, impl.Class{17, 30}, impl.Class{23, 30}, impl.Class{29, 30}), true}, {rows5(impl.Class{0, 2}, impl.Class{1, 4}, impl.Class{3, 8}, impl.Class{7, 16}, impl.Class{15, 32}, impl.Class{31, 32}), true},
	}
	for _, c := range cases {
		if yes, code := impl.AreExact(c.list); yes != c.want || code != impl.ErrNone {
			t.Errorf("AreExact(%v) = %v, %d", c.list, yes, code)
		}
	}
	exact, apart, cover := 0, 0, 0
	eachClasses5(func(list []impl.Class) {
		isApart, doCover := apart5(list), uncovered5(list) < 0
		if yes, code := impl.AreExact(list); yes != (isApart && doCover) || code != impl.ErrNone {
			t.Errorf("AreExact(%v) = %v, %d", list, yes, code)
		}
		switch {
		case isApart && doCover:
			exact++
		case isApart:
			apart++
		case doCover:
			cover++
		}
	})
	if exact < 2000 || apart < 1000 || cover < 500 {
		t.Errorf("only %d classes are exact, %d are apart, %d cover", exact, apart, cover)
	}
	// No span is too great here.
	for _, list := range wide5 {
		if yes, code := impl.AreExact(list); yes || code != impl.ErrNone {
			t.Errorf("AreExact(%v) = %v, %d", list, yes, code)
		}
	}
}

func TestTurnsOfClasses(t *testing.T) {
	cases := []struct {
		list []impl.Class
		text string
	}{
		{rows5(impl.Class{0, 1}), "a"}, {rows5(impl.Class{0, 2}), "a."}, {rows5(impl.Class{1, 2}), ".a"}, {rows5(impl.Class{0, 2}, impl.Class{1, 4}, impl.Class{3, 4}), "abac"}, {rows5(impl.Class{3, 4}, impl.Class{0, 2}), "b.ba"}, {rows5(impl.Class{2, 4}, impl.Class{0, 4}), "b.a."}, {rows5(impl.Class{0, 4}, impl.Class{1, 6}), "ab..a..ba..."}, {rows5(impl.Class{2, 4}, impl.Class{5, 6}), "..a..ba...ab"},
		{rows5(impl.Class{7, 8}, impl.Class{6, 8}, impl.Class{5, 8}, impl.Class{4, 8}, impl.Class{3, 8}, impl.Class{2, 8}, impl.Class{1, 8}, impl.Class{0, 8}), "hgfedcba"}, {rows5(impl.Class{0, 6}, impl.Class{1, 10}, impl.Class{2, 15}), "abc...a....ba....ca..b..a....."},
	}
	for _, c := range cases {
		turns, code := impl.TurnsOfClasses(c.list)
		wantTurns3(t, fmt.Sprint("TurnsOfClasses", c.list), turns, slots(c.text), code, impl.ErrNone)
	}
	// Spans of just MaxTurns, and of 126, the least greater one that classes can have that are apart.
	for _, list := range [][]impl.Class{{{0, 24}, {1, 40}}, {{23, 24}, {38, 40}, {4, 30}}, {{0, 40}, {1, 12}}, {{7, 8}, {6, 30}, {0, 40}}} {
		turns, code := impl.TurnsOfClasses(list)
		wantTurns3(t, fmt.Sprint("TurnsOfClasses", list), turns, turns5(list), code, impl.ErrNone)
		if len(turns) != 120 {
			t.Errorf("TurnsOfClasses(%v) has %d slots", list, len(turns))
		}
	}
	for _, list := range [][]impl.Class{{{0, 18}, {1, 14}}, {{0, 36}, {1, 40}}, {{0, 38}, {1, 40}}, {{0, 32}, {1, 12}, {2, 40}}} {
		turns, code := impl.TurnsOfClasses(list)
		wantCode(t, fmt.Sprint("TurnsOfClasses", list), code, impl.ErrLimit, len(turns) == 0)
	}
	// Classes that are not apart come ahead of a span that is too great.
	for _, list := range append([][]impl.Class{{{0, 2}, {0, 3}}, {{0, 1}, {0, 1}}, {{5, 9}, {5, 9}}, {{0, 18}, {0, 14}}, {{0, 11}, {0, 12}}, {{0, 40}, {0, 39}}, {{0, 36}, {1, 40}, {4, 40}}}, wide5[:7]...) {
		turns, code := impl.TurnsOfClasses(list)
		wantCode(t, fmt.Sprint("TurnsOfClasses", list), code, impl.ErrState, len(turns) == 0)
	}
	codes := map[int64]int{}
	eachClasses5(func(list []impl.Class) {
		want, wantErr := []int64(nil), int64(impl.ErrNone)
		switch {
		case !apart5(list):
			wantErr = impl.ErrState
		case multiple3(gaps5(list)) > 120:
			wantErr = impl.ErrLimit
		default:
			want = turns5(list)
		}
		turns, code := impl.TurnsOfClasses(list)
		wantTurns3(t, fmt.Sprint("TurnsOfClasses", list), turns, want, code, wantErr)
		codes[wantErr]++
	})
	if codes[impl.ErrNone] < 3000 || codes[impl.ErrState] < 3000 || codes[impl.ErrLimit] < 50 {
		t.Errorf("only these codes: %v", codes)
	}
}

// sparse5 returns turns of so many slots with a task in the given ones.
func sparse5(size int, i int64, at ...int) []int64 {
	turns := times(size, -1)
	for _, slot := range at {
		turns[slot] = i
	}
	return turns
}

func TestClassesOfTurns(t *testing.T) {
	cases := []struct {
		turns   []int64
		k       int64
		want    []impl.Class
		wantErr int64
	}{
		{slots("a"), 1, rows5(impl.Class{0, 1}), 0}, {slots("aaa"), 1, rows5(impl.Class{0, 1}), 0}, {slots(".a"), 1, rows5(impl.Class{1, 2}), 0}, {slots("a."), 1, rows5(impl.Class{0, 2}), 0}, {slots(".a.a"), 1, rows5(impl.Class{1, 2}), 0}, {slots("abac"), 3, rows5(impl.Class{0, 2}, impl.Class{1, 4}, impl.Class{3, 4}), 0}, {slots("..ba"), 2, rows5(impl.Class{3, 4}, impl.Class{2, 4}), 0}, {slots("ab..a..ba..."), 2, rows5(impl.Class{0, 4}, impl.Class{1, 6}), 0},
		{slots("hgfedcba"), 8, rows5(impl.Class{7, 8}, impl.Class{6, 8}, impl.Class{5, 8}, impl.Class{4, 8}, impl.Class{3, 8}, impl.Class{2, 8}, impl.Class{1, 8}, impl.Class{0, 8}), 0}, {times(120, 0), 1, rows5(impl.Class{0, 1}), 0},
		// No turn, for one task of several, and for all.
		{slots("."), 1, nil, impl.ErrNotFound}, {slots("a"), 2, nil, impl.ErrNotFound}, {slots("b"), 2, nil, impl.ErrNotFound}, {slots("ac"), 3, nil, impl.ErrNotFound}, {slots("abcdefg"), 8, nil, impl.ErrNotFound}, {times(120, -1), 8, nil, impl.ErrNotFound},
		// Waits that are not equal, first or last, or round the end.
		{slots("aab"), 2, nil, impl.ErrNotFound}, {slots("aa."), 1, nil, impl.ErrNotFound}, {slots("a.a"), 1, nil, impl.ErrNotFound}, {slots(".aa"), 1, nil, impl.ErrNotFound}, {slots("a.a.."), 1, nil, impl.ErrNotFound}, {slots("a..a."), 1, nil, impl.ErrNotFound}, {slots(".a.a."), 1, nil, impl.ErrNotFound}, {slots("aaab"), 2, nil, impl.ErrNotFound}, {slots("abaabaab"), 2, nil, impl.ErrNotFound}, {slots("a.aa.a"), 1, nil, impl.ErrNotFound}, {slots("a..aa..a"), 1, nil, impl.ErrNotFound}, {slots("a.a.a.aa"), 1, nil, impl.ErrNotFound}, {slots("ababbb"), 2, nil, impl.ErrNotFound}, {slots("a.b.a..b"), 2, nil, impl.ErrNotFound},
		// Gaps of just MaxGap, and of one more and more.
		{sparse5(40, 0, 0), 1, rows5(impl.Class{0, 40}), 0}, {sparse5(40, 0, 39), 1, rows5(impl.Class{39, 40}), 0}, {sparse5(120, 0, 7, 47, 87), 1, rows5(impl.Class{7, 40}), 0}, {sparse5(80, 0, 39, 79), 1, rows5(impl.Class{39, 40}), 0},
		{sparse5(41, 0, 0), 1, nil, impl.ErrLimit}, {sparse5(41, 0, 40), 1, nil, impl.ErrLimit}, {sparse5(82, 0, 3, 44), 1, nil, impl.ErrLimit}, {sparse5(120, 0, 59, 119), 1, nil, impl.ErrLimit}, {sparse5(120, 0, 119), 1, nil, impl.ErrLimit},
		// A task without equal waits, ahead of or behind one with a gap that is too great, comes first.
		{sparse5(41, 0, 0), 2, nil, impl.ErrNotFound}, {sparse5(41, 1, 0), 2, nil, impl.ErrNotFound}, {append(sparse5(41, 0, 0), 1, 1), 2, nil, impl.ErrNotFound}, {append(sparse5(41, 1, 0), 0, 0), 2, nil, impl.ErrNotFound}, {sparse5(120, 0, 0, 59), 1, nil, impl.ErrNotFound}, {sparse5(120, 0, 0, 61), 1, nil, impl.ErrNotFound}, {append(sparse5(41, 0, 0), 1), 2, nil, impl.ErrLimit}, {append(sparse5(41, 1, 0), 0), 2, nil, impl.ErrLimit}, {append(times(41, 0), 1), 2, nil, impl.ErrNotFound},
	}
	for _, c := range cases {
		list, code := impl.ClassesOfTurns(c.turns, c.k)
		wantClasses5(t, fmt.Sprint("ClassesOfTurns", c.turns, c.k), list, c.want, code, c.wantErr)
	}
	found, none := 0, 0
	check := func(turns []int64) {
		for k := max(1, slices.Max(turns)+1); k <= min(8, slices.Max(turns)+2); k++ {
			want, wantErr := classesOfTurns5(turns, k)
			list, code := impl.ClassesOfTurns(turns, k)
			wantClasses5(t, fmt.Sprint("ClassesOfTurns", turns, k), list, want, code, wantErr)
			if code == impl.ErrNone {
				found++
			} else {
				none++
			}
		}
	}
	shortTurns(6, 3, check)
	longTurns(func(turns []int64) {
		if len(turns) <= 60 || len(turns)%12 == 0 {
			check(turns)
		}
	})
	eachClasses5(func(list []impl.Class) {
		if apart5(list) && multiple3(gaps5(list)) <= 40 {
			check(turns5(list))
		}
	})
	if found < 2000 || none < 2000 {
		t.Errorf("only %d classes are found, and %d times none", found, none)
	}
}

func TestFirstRests(t *testing.T) {
	cases := []struct{ gaps, want []int64 }{
		{[]int64{1}, []int64{0}}, {[]int64{40}, []int64{0}}, {[]int64{2, 2}, []int64{0, 1}}, {[]int64{4, 2, 4}, []int64{0, 1, 2}}, {[]int64{2, 4, 4}, []int64{0, 1, 3}}, {[]int64{4, 4, 2}, []int64{0, 2, 1}}, {[]int64{6, 10, 15}, []int64{0, 1, 2}}, {[]int64{4, 6}, []int64{0, 1}}, {[]int64{40, 38}, []int64{0, 1}}, {[]int64{6, 6, 3, 3}, []int64{0, 3, 1, 2}},
		// Just MaxRests tasks.
		{times(5, 5), []int64{0, 1, 2, 3, 4}}, {times(5, 40), []int64{0, 1, 2, 3, 4}}, {[]int64{2, 4, 8, 16, 32}, []int64{0, 1, 3, 7, 15}}, {[]int64{32, 16, 8, 4, 2}, []int64{0, 8, 4, 2, 1}}, {[]int64{16, 16, 8, 4, 2}, []int64{0, 8, 4, 2, 1}}, {[]int64{40, 40, 40, 40, 2}, []int64{0, 2, 4, 6, 1}}, {[]int64{36, 24, 40, 32, 28}, []int64{0, 1, 2, 5, 3}}, {[]int64{24, 24, 12, 6, 3}, []int64{0, 1, 3, 4, 2}}, {[]int64{10, 15, 6, 30, 30}, []int64{0, 1, 3, 2, 4}}, {[]int64{2, 4, 12, 12, 12}, []int64{0, 1, 3, 7, 11}}, {[]int64{3, 6, 12, 24, 24}, []int64{0, 1, 2, 4, 5}},
		// There are none: gaps that do not fit, too great a density, and gaps that fit, with a density of at most 1.
		{[]int64{1, 1}, nil}, {[]int64{2, 3}, nil}, {[]int64{40, 39}, nil}, {[]int64{40, 1}, nil}, {[]int64{40, 40, 40, 40, 39}, nil}, {[]int64{40, 40, 40, 40, 1}, nil}, {[]int64{38, 38, 38, 38, 33}, nil}, {[]int64{2, 2, 2}, nil}, {[]int64{2, 2, 4}, nil}, {times(5, 4), nil}, {[]int64{4, 6, 10}, nil}, {[]int64{6, 10, 14}, nil}, {[]int64{36, 38, 40, 34, 32}, nil}, {[]int64{39, 36, 33, 30, 27}, nil}, {[]int64{12, 6, 4, 3}, nil}, {[]int64{36, 36, 18, 4, 3}, nil},
	}
	for _, c := range cases {
		var want []impl.Class
		for i, rest := range c.want {
			want = append(want, impl.Class{rest, c.gaps[i]})
		}
		checkFirstRests5(t, c.gaps, want)
	}
	eachGaps2(250, func(gaps []int64) {
		want, _ := rests5(gaps)
		checkFirstRests5(t, gaps, want)
	})
	numbers := rand.New(rand.NewSource(55))
	for range 300 {
		gaps := []int64{1}
		for product := int64(20001); product > 20000; {
			gaps, product = nil, 1
			for range 3 + numbers.Intn(3) {
				gap := []int64{2, 3, 4, 4, 6, 6, 8, 9, 10, 12, 12, 18, 24, 24, 36, 40}[numbers.Intn(16)]
				gaps, product = append(gaps, gap), product*gap
			}
		}
		want, _ := rests5(gaps)
		checkFirstRests5(t, gaps, want)
	}
	// One task more than MaxRests, whether there would be any rests or not.
	for _, gaps := range [][]int64{times(6, 6), times(6, 1), times(8, 8), times(8, 40), times(7, 2), {40, 40, 40, 40, 40, 39}, {2, 4, 8, 16, 32, 32}} {
		list, code := impl.FirstRests(tasksOf(gaps...))
		wantCode(t, fmt.Sprint("FirstRests", gaps), code, impl.ErrLimit, len(list) == 0)
	}
}

// checkFirstRests5 looks whether FirstRests returns these classes, or that there are none.
func checkFirstRests5(t *testing.T, gaps []int64, want []impl.Class) {
	t.Helper()
	wantErr := int64(impl.ErrNone)
	if want == nil {
		wantErr = impl.ErrNotFound
	}
	list, code := impl.FirstRests(tasksOf(gaps...))
	wantClasses5(t, fmt.Sprint("FirstRests", gaps), list, want, code, wantErr)
}

func TestCountRests(t *testing.T) {
	cases := []struct {
		gaps []int64
		want int64
	}{
		{[]int64{1}, 1}, {[]int64{40}, 40}, {[]int64{2, 2}, 2}, {[]int64{2, 4, 4}, 4}, {[]int64{4, 2, 4}, 4}, {[]int64{4, 4, 2}, 4}, {[]int64{4, 6}, 12}, {[]int64{40, 40}, 1560}, {[]int64{6, 6, 6}, 120}, {times(5, 5), 120}, {times(5, 6), 720}, {times(5, 7), 2520}, {[]int64{2, 4, 8, 16}, 16}, {[]int64{6, 10, 15}, 240},
		{[]int64{1, 1}, 0}, {[]int64{2, 3}, 0}, {[]int64{40, 39}, 0}, {[]int64{40, 1}, 0}, {times(8, 1), 0}, {times(8, 3), 0}, {times(6, 5), 0}, {[]int64{4, 6, 10}, 0}, {[]int64{1, 1, 1, 1, 1, 1, 1, 40}, 0}, {[]int64{40, 40, 12, 1}, 0},
	}
	for _, c := range cases {
		if count, code := impl.CountRests(tasksOf(c.gaps...)); count != c.want || code != impl.ErrNone {
			t.Errorf("CountRests(%v) = %d, %d, not %d", c.gaps, count, code, c.want)
		}
	}
	some, none := 0, 0
	check := func(gaps []int64) {
		_, want := rests5(gaps)
		if count, code := impl.CountRests(tasksOf(gaps...)); count != want || code != impl.ErrNone {
			t.Errorf("CountRests(%v) = %d, %d, not %d", gaps, count, code, want)
		}
		if want > 0 {
			some++
		} else {
			none++
		}
	}
	eachGaps2(250, check)
	for _, gaps := range [][]int64{{4, 4, 8, 8, 16}, {3, 6, 12, 24}, {12, 6, 3, 24}, {6, 10, 15, 20}, {36, 24, 20}, {2, 2, 2, 2, 2, 2, 2, 2}, {4, 4, 4, 4, 4, 4}, {2, 4, 8, 8, 8}, {10, 10, 10, 15}, {9, 9, 9, 3, 3}, {2, 6, 6, 12, 12}} {
		check(gaps)
	}
	// Products of just 20000, and of 20007, the least greater one that gaps can have.
	for _, gaps := range [][]int64{{40, 25, 20}, {25, 20, 40}, {5, 10, 20, 20}, {25, 25, 32}, {2, 2, 2, 4, 5, 5, 5, 5}} {
		check(gaps)
	}
	for _, gaps := range [][]int64{{27, 39, 19}, {39, 19, 27}, {9, 3, 13, 3, 19}, {40, 40, 13}, {40, 40, 40}, {1, 1, 1, 1, 1, 40, 40, 40}, times(8, 40), times(8, 4), {40, 39, 37, 31, 29, 23, 19, 17}} {
		count, code := impl.CountRests(tasksOf(gaps...))
		wantCode(t, fmt.Sprint("CountRests", gaps), code, impl.ErrLimit, count == 0)
	}
	if some < 400 || none < 400 {
		t.Errorf("only %d gaps have rests, %d have none", some, none)
	}
}

func TestSplitClass(t *testing.T) {
	whole, exact := rows5(impl.Class{0, 1}), rows5(impl.Class{0, 2}, impl.Class{1, 4}, impl.Class{3, 4})
	seven := slices.Repeat(rows5(impl.Class{4, 5}), 7)
	cases := []struct {
		list []impl.Class
		i, m int64
		want []impl.Class
	}{
		{whole, 0, 2, rows5(impl.Class{0, 2}, impl.Class{1, 2})}, {whole, 0, 3, rows5(impl.Class{0, 3}, impl.Class{1, 3}, impl.Class{2, 3})}, {rows5(impl.Class{0, 2}, impl.Class{1, 2}), 1, 3, rows5(impl.Class{0, 2}, impl.Class{1, 6}, impl.Class{3, 6}, impl.Class{5, 6})}, {exact, 0, 2, rows5(impl.Class{0, 4}, impl.Class{2, 4}, impl.Class{1, 4}, impl.Class{3, 4})}, {exact, 1, 2, rows5(impl.Class{0, 2}, impl.Class{1, 8}, impl.Class{5, 8}, impl.Class{3, 4})}, {exact, 2, 2, rows5(impl.Class{0, 2}, impl.Class{1, 4}, impl.Class{3, 8}, impl.Class{7, 8})},
		// Just MaxClasses classes, and one more, which comes to nothing.
		{whole, 0, 8, rows5(impl.Class{0, 8}, impl.Class{1, 8}, impl.Class{2, 8}, impl.Class{3, 8}, impl.Class{4, 8}, impl.Class{5, 8}, impl.Class{6, 8}, impl.Class{7, 8})}, {exact, 0, 6, rows5(impl.Class{0, 12}, impl.Class{2, 12}, impl.Class{4, 12}, impl.Class{6, 12}, impl.Class{8, 12}, impl.Class{10, 12}, impl.Class{1, 4}, impl.Class{3, 4})}, {exact, 0, 7, nil}, {exact, 2, 7, nil}, {rows5(impl.Class{0, 2}, impl.Class{1, 2}), 1, 8, nil}, {rows5(impl.Class{0, 1}, impl.Class{0, 1}), 0, 8, nil},
		{seven, 6, 2, append(slices.Clone(seven[:6]), impl.Class{4, 10}, impl.Class{9, 10})}, {seven, 0, 3, nil}, {append(slices.Clone(seven), impl.Class{0, 1}), 7, 2, nil},
		// Gaps of just MaxGap, and of 42, the least greater one that comes from a split.
		{rows5(impl.Class{4, 5}), 0, 8, rows5(impl.Class{4, 40}, impl.Class{9, 40}, impl.Class{14, 40}, impl.Class{19, 40}, impl.Class{24, 40}, impl.Class{29, 40}, impl.Class{34, 40}, impl.Class{39, 40})}, {rows5(impl.Class{0, 20}), 0, 2, rows5(impl.Class{0, 40}, impl.Class{20, 40})}, {rows5(impl.Class{19, 20}), 0, 2, rows5(impl.Class{19, 40}, impl.Class{39, 40})}, {rows5(impl.Class{0, 39}, impl.Class{7, 10}), 1, 4, rows5(impl.Class{0, 39}, impl.Class{7, 40}, impl.Class{17, 40}, impl.Class{27, 40}, impl.Class{37, 40})},
		{rows5(impl.Class{0, 21}), 0, 2, nil}, {rows5(impl.Class{13, 14}), 0, 3, nil}, {rows5(impl.Class{3, 7}), 0, 6, nil}, {rows5(impl.Class{3, 6}), 0, 7, nil}, {rows5(impl.Class{0, 40}), 0, 2, nil}, {rows5(impl.Class{0, 40}), 0, 8, nil}, {rows5(impl.Class{0, 2}, impl.Class{0, 21}), 1, 2, nil}, {rows5(impl.Class{0, 2}, impl.Class{0, 21}), 0, 2, rows5(impl.Class{0, 4}, impl.Class{2, 4}, impl.Class{0, 21})},
	}
	for _, c := range cases {
		wantErr := int64(impl.ErrNone)
		if c.want == nil {
			wantErr = impl.ErrLimit
		}
		list, code := impl.SplitClass(c.list, c.i, c.m)
		wantClasses5(t, fmt.Sprint("SplitClass", c.list, c.i, c.m), list, c.want, code, wantErr)
	}
	split, limited := 0, 0
	eachClasses5(func(list []impl.Class) {
		for i := range list {
			for m := int64(2); m <= 8; m++ {
				want, wantErr := split5(list, int64(i), m), int64(impl.ErrNone)
				if len(want) > 8 || slices.Max(gaps5(want)) > 40 {
					want, wantErr = nil, impl.ErrLimit
					limited++
				} else {
					split++
				}
				got, code := impl.SplitClass(list, int64(i), m)
				wantClasses5(t, fmt.Sprint("SplitClass", list, i, m), got, want, code, wantErr)
			}
		}
	})
	if split < 5000 || limited < 5000 {
		t.Errorf("only %d classes are split, %d are limited", split, limited)
	}
}

func TestAreNatural(t *testing.T) {
	cases := []struct {
		list []impl.Class
		want bool
	}{
		{rows5(impl.Class{0, 1}), true}, {rows5(impl.Class{0, 2}), false}, {rows5(impl.Class{1, 2}), false}, {rows5(impl.Class{0, 40}), false}, {rows5(impl.Class{0, 2}, impl.Class{1, 2}), true}, {rows5(impl.Class{1, 2}, impl.Class{0, 2}), true}, {rows5(impl.Class{3, 4}, impl.Class{0, 2}, impl.Class{1, 4}), true}, {rows5(impl.Class{0, 2}, impl.Class{1, 4}), false}, {rows5(impl.Class{2, 3}, impl.Class{0, 3}, impl.Class{1, 3}), true},
		// All classes of the gap 6, and 12 classes put together: by 2 and by 3 alike, or by one of them first.
		{rows5(impl.Class{5, 6}, impl.Class{1, 6}, impl.Class{3, 6}, impl.Class{0, 6}, impl.Class{4, 6}, impl.Class{2, 6}), true}, {rows5(impl.Class{1, 2}, impl.Class{4, 6}, impl.Class{2, 6}, impl.Class{0, 6}), true}, {rows5(impl.Class{0, 3}, impl.Class{4, 6}, impl.Class{1, 6}, impl.Class{2, 6}, impl.Class{5, 6}), true}, {rows5(impl.Class{0, 3}, impl.Class{1, 3}, impl.Class{2, 12}, impl.Class{5, 12}, impl.Class{8, 12}, impl.Class{11, 12}), true}, {rows5(impl.Class{0, 8}, impl.Class{7, 8}, impl.Class{6, 8}, impl.Class{1, 8}, impl.Class{3, 8}, impl.Class{5, 8}, impl.Class{4, 8}, impl.Class{2, 8}), true}, {rows5(impl.Class{31, 32}, impl.Class{15, 32}, impl.Class{7, 16}, impl.Class{3, 8}, impl.Class{1, 4}, impl.Class{0, 2}), true},
		// The same class twice, classes too many, and too few.
		{rows5(impl.Class{0, 1}, impl.Class{0, 1}), false}, {rows5(impl.Class{0, 1}, impl.Class{0, 2}), false}, {rows5(impl.Class{0, 2}, impl.Class{0, 2}), false}, {rows5(impl.Class{0, 2}, impl.Class{1, 2}, impl.Class{1, 2}), false}, {rows5(impl.Class{0, 2}, impl.Class{1, 2}, impl.Class{0, 1}), false}, {rows5(impl.Class{0, 2}, impl.Class{1, 2}, impl.Class{0, 3}), false}, {rows5(impl.Class{0, 2}, impl.Class{1, 4}, impl.Class{3, 8}), false}, {rows5(impl.Class{0, 2}, impl.Class{1, 4}, impl.Class{1, 4}), false}, {rows5(impl.Class{0, 2}, impl.Class{1, 4}, impl.Class{2, 4}), false},
		// They cover, but not each slot once.
		{rows5(impl.Class{0, 2}, impl.Class{0, 3}, impl.Class{1, 4}, impl.Class{5, 6}, impl.Class{7, 12}), false}, {rows5(impl.Class{0, 2}, impl.Class{1, 4}, impl.Class{3, 4}, impl.Class{3, 8}), false}, {slices.Repeat(rows5(impl.Class{0, 1}), 8), false}, {slices.Repeat(rows5(impl.Class{0, 8}), 8), false},
	}
	for _, c := range append(cases, cases...) {
		if yes, code := impl.AreNatural(c.list); yes != c.want || code != impl.ErrNone {
			t.Errorf("AreNatural(%v) = %v, %d", c.list, yes, code)
		}
		slices.Reverse(c.list)
	}
	known := map[string]bool{}
	for _, list := range allNatural5() {
		known[key5(list)] = true
	}
	natural, other := 0, 0
	check := func(list []impl.Class) {
		want := known[key5(list)]
		if yes, code := impl.AreNatural(list); yes != want || code != impl.ErrNone {
			t.Errorf("AreNatural(%v) = %v, %d, not %v", list, yes, code, want)
		}
		if want {
			natural++
		} else {
			other++
		}
	}
	eachClasses5(check)
	for _, list := range wide5 {
		check(list)
	}
	if natural < 2000 || other < 3000 {
		t.Errorf("only %d classes are natural, %d are not", natural, other)
	}
}

// TestExactAndNatural goes through all exact classes. With at most MaxClasses classes there are none
// that are not natural.
func TestExactAndNatural(t *testing.T) {
	known := map[string]bool{}
	for _, list := range allNatural5() {
		known[key5(list)] = true
	}
	all := allExact5()
	for _, list := range all {
		for range list {
			exact, a := impl.AreExact(list)
			natural, b := impl.AreNatural(list)
			if !exact || natural != known[key5(list)] || a != impl.ErrNone || b != impl.ErrNone {
				t.Errorf("%v: AreExact is %v, %d, AreNatural %v, %d", list, exact, a, natural, b)
			}
			list = append(list[1:], list[0])
		}
	}
	if len(all) < 2000 {
		t.Errorf("only %d classes are exact", len(all))
	}
}

func TestDoFit(t *testing.T) {
	cases := []struct {
		gaps []int64
		want bool
	}{
		{[]int64{1}, true}, {[]int64{40}, true}, {[]int64{1, 1}, false}, {[]int64{1, 40}, false}, {[]int64{40, 1}, false}, {[]int64{2, 2}, true}, {[]int64{2, 3}, false}, {[]int64{40, 39}, false}, {[]int64{6, 10, 15}, true}, {[]int64{6, 35}, false}, {[]int64{6, 10, 15, 7}, false}, {[]int64{7, 6, 10, 15}, false}, {[]int64{6, 7, 10, 15}, false}, {[]int64{6, 10, 15, 25}, false}, {[]int64{6, 10, 25, 15}, false}, {[]int64{37, 37}, true}, {[]int64{37, 31}, false}, {[]int64{4, 6, 10}, true},
		{times(8, 40), true}, {times(8, 1), false}, {times(8, 2), true}, {[]int64{2, 4, 6, 8, 10, 12, 14, 16}, true}, {[]int64{2, 4, 6, 8, 10, 12, 14, 15}, false}, {[]int64{15, 4, 6, 8, 10, 12, 14, 2}, false}, {[]int64{2, 4, 6, 8, 10, 12, 14, 1}, false},
	}
	for _, c := range cases {
		if yes, code := impl.DoFit(tasksOf(c.gaps...)); yes != c.want || code != impl.ErrNone {
			t.Errorf("DoFit(%v) = %v, %d", c.gaps, yes, code)
		}
	}
	fit, other := 0, 0
	check := func(gaps []int64) {
		want := fit5(gaps)
		if yes, code := impl.DoFit(tasksOf(gaps...)); yes != want || code != impl.ErrNone {
			t.Errorf("DoFit(%v) = %v, %d, not %v", gaps, yes, code, want)
		}
		if want {
			fit++
		} else {
			other++
		}
	}
	for a := int64(1); a <= 40; a++ {
		for b := int64(1); b <= 40; b++ {
			check([]int64{a, b})
		}
	}
	for _, gaps := range gapLists3() {
		check(gaps)
	}
	if fit < 500 || other < 500 {
		t.Errorf("only %d gaps fit, %d do not", fit, other)
	}
}

// fit5 looks for a number greater than 1 that divides both gaps, for each two.
func fit5(gaps []int64) bool {
	for j := range gaps {
		for i := range j {
			common := false
			for n := int64(2); n <= 40; n++ {
				common = common || gaps[i]%n == 0 && gaps[j]%n == 0
			}
			if !common {
				return false
			}
		}
	}
	return true
}

// TestPromise5: classes that are apart have turns with equal waits, and first rests are apart.
func TestPromise5(t *testing.T) {
	turned, rested := 0, 0
	eachClasses5(func(list []impl.Class) {
		apart, _ := impl.AreApart(list)
		turns, code := impl.TurnsOfClasses(list)
		if code == impl.ErrNone != (apart && multiple3(gaps5(list)) <= 120) {
			t.Errorf("AreApart(%v) = %v, but TurnsOfClasses has the code %d", list, apart, code)
		}
		if code != impl.ErrNone {
			return
		}
		turned++
		for i, class := range list {
			waits, code := impl.WaitsOf(turns, int64(i))
			if code != impl.ErrNone || len(waits) == 0 || slices.Min(waits) != class[1] || slices.Max(waits) != class[1] || int64(slices.Index(turns, int64(i))) != class[0] {
				t.Errorf("TurnsOfClasses(%v) = %v: the waits of %d are %v, %d", list, turns, i, waits, code)
			}
		}
		if serve, code := impl.DoServe(tasksOf(gaps5(list)...), turns); !serve || code != impl.ErrNone {
			t.Errorf("TurnsOfClasses(%v) = %v does not serve their gaps", list, turns)
		}
	})
	for _, gaps := range gapLists3() {
		for ; len(gaps) > 0; gaps = gaps[1:] {
			rested += checkRests5(t, gaps)
		}
	}
	eachGaps2(250, func(gaps []int64) { rested += checkRests5(t, gaps) })
	if turned < 3000 || rested < 1000 {
		t.Errorf("only %d classes have turns, and %d gaps rests", turned, rested)
	}
}

// checkRests5 looks whether first rests are apart, and there are none just if none are counted. It
// returns 1 if there are some.
func checkRests5(t *testing.T, gaps []int64) int {
	t.Helper()
	list, code := impl.FirstRests(tasksOf(gaps...))
	if count, also := impl.CountRests(tasksOf(gaps...)); also == impl.ErrNone && code != impl.ErrLimit && (count > 0) != (code == impl.ErrNone) {
		t.Errorf("FirstRests(%v) = %v, %d, but CountRests is %d", gaps, list, code, count)
	}
	if code != impl.ErrNone {
		return 0
	}
	apart, code := impl.AreApart(list)
	fit, also := impl.DoFit(tasksOf(gaps...))
	if !apart || code != impl.ErrNone || !apart5(list) || !slices.Equal(gaps5(list), gaps) || !fit || also != impl.ErrNone {
		t.Errorf("FirstRests(%v) = %v: AreApart is %v, %d, DoFit %v, %d", gaps, list, apart, code, fit, also)
	}
	return 1
}

// TestPromise16: classes come back from their turns, also if these are repeated, and turns come back
// from their classes, but for what they repeat.
func TestPromise16(t *testing.T) {
	back, whole, longest := 0, 0, 0
	eachClasses5(func(list []impl.Class) {
		turns, code := impl.TurnsOfClasses(list)
		if code != impl.ErrNone {
			return
		}
		back++
		if len(turns) == 120 {
			longest++
		}
		for n := int64(1); n*int64(len(turns)) <= 120; n++ {
			again, code := impl.RepeatTurns(turns, n)
			got, also := impl.ClassesOfTurns(again, int64(len(list)))
			if !slices.Equal(got, list) || code != impl.ErrNone || also != impl.ErrNone {
				t.Errorf("ClassesOfTurns of the turns of %v, %d times, is %v, %d", list, n, got, also)
			}
		}
	})
	shortTurns(6, 3, func(turns []int64) {
		list, code := impl.ClassesOfTurns(turns, max(1, slices.Max(turns)+1))
		if code != impl.ErrNone {
			return
		}
		whole++
		got, code := impl.TurnsOfClasses(list)
		if period, _ := impl.PeriodOf(turns); !slices.Equal(got, turns[:period]) || code != impl.ErrNone {
			t.Errorf("TurnsOfClasses of the classes of %v is %v, %d", turns, got, code)
		}
	})
	if back < 3000 || whole < 200 || longest < 50 {
		t.Errorf("only %d classes come back, %d of them from 120 slots, and %d turns", back, longest, whole)
	}
}

// TestGuarantee5: splits keep exact classes exact, natural ones natural, and those that are apart apart;
// exact is what is apart and covers; and gaps of classes that are apart fit.
func TestGuarantee5(t *testing.T) {
	split, exact := 0, 0
	eachClasses5(func(list []impl.Class) {
		isExact, code := impl.AreExact(list)
		isApart, _ := impl.AreApart(list)
		isNatural, _ := impl.AreNatural(list)
		doCover, _ := impl.DoCover(list)
		fit, _ := impl.DoFit(tasksOf(gaps5(list)...))
		if isExact != (isApart && doCover) || isNatural && !isExact || isApart && !fit || code != impl.ErrNone {
			t.Errorf("%v: exact %v, apart %v, natural %v, cover %v, fit %v, %d", list, isExact, isApart, isNatural, doCover, fit, code)
		}
		for i := range list {
			for m := int64(2); m <= 8; m++ {
				parts, code := impl.SplitClass(list, int64(i), m)
				if code != impl.ErrNone {
					break
				}
				split++
				a, _ := impl.AreExact(parts)
				b, _ := impl.AreApart(parts)
				c, _ := impl.AreNatural(parts)
				d, _ := impl.DoCover(parts)
				if a != isExact || b != isApart || isNatural && !c || d != doCover {
					t.Errorf("SplitClass(%v, %d, %d) = %v: exact %v, apart %v, natural %v, cover %v", list, i, m, parts, a, b, c, d)
				}
				if a {
					exact++
				}
			}
		}
	})
	if split < 5000 || exact < 1000 {
		t.Errorf("only %d classes are split, %d of them exact", split, exact)
	}
}

// ofClasses5 are the chapter's functions that take only classes; each reports whether all results are
// zero values.
var ofClasses5 = []struct {
	name string
	run  func(list []impl.Class) (bool, int64)
}{
	{"AreApart", func(list []impl.Class) (bool, int64) { a, code := impl.AreApart(list); return !a, code }},
	{"DoCover", func(list []impl.Class) (bool, int64) { a, code := impl.DoCover(list); return !a, code }},
	{"FirstUncovered", func(list []impl.Class) (bool, int64) { a, code := impl.FirstUncovered(list); return a == 0, code }},
	{"AreExact", func(list []impl.Class) (bool, int64) { a, code := impl.AreExact(list); return !a, code }},
	{"TurnsOfClasses", func(list []impl.Class) (bool, int64) { a, code := impl.TurnsOfClasses(list); return len(a) == 0, code }},
	{"AreNatural", func(list []impl.Class) (bool, int64) { a, code := impl.AreNatural(list); return !a, code }},
}

func TestErrors5(t *testing.T) {
	for _, bad := range badClasses5() {
		for _, c := range ofClasses5 {
			zero, code := c.run(bad)
			wantCode(t, fmt.Sprint(c.name, bad), code, impl.ErrInvalid, zero)
		}
		for _, i := range append([]int64{0, 1, 8, -1}, farNumbers...) {
			for _, m := range append([]int64{2, 8, 1, 0, 9, -1}, farNumbers...) {
				list, code := impl.SplitClass(bad, i, m)
				wantCode(t, fmt.Sprint("SplitClass", bad, i, m), code, impl.ErrInvalid, len(list) == 0)
			}
		}
	}
	for _, bad := range badTasks1() {
		list, code := impl.FirstRests(bad) // ahead of too many tasks
		wantCode(t, fmt.Sprint("FirstRests", bad), code, impl.ErrInvalid, len(list) == 0)
		count, code := impl.CountRests(bad)
		wantCode(t, fmt.Sprint("CountRests", bad), code, impl.ErrInvalid, count == 0)
		fit, code := impl.DoFit(bad)
		wantCode(t, fmt.Sprint("DoFit", bad), code, impl.ErrInvalid, !fit)
	}
}

// TestErrorsOfNumbers5 has numbers, and turns, that are not as told.
func TestErrorsOfNumbers5(t *testing.T) {
	// With some of these classes a split would also have too many parts, or too great a gap.
	for _, list := range [][]impl.Class{{{0, 1}}, {{0, 2}, {1, 2}}, {{0, 40}}, slices.Repeat(rows5(impl.Class{0, 40}), 8), wide5[1]} {
		size := int64(len(list))
		badPlaces := append([]int64{-1, -2, size, size + 1, 256, -size}, farNumbers...)
		badParts := append([]int64{1, 0, -1, -2, 9, 10, 256}, farNumbers...)
		for _, m := range append([]int64{2, 3, 8}, badParts...) {
			for _, i := range badPlaces {
				got, code := impl.SplitClass(list, i, m)
				wantCode(t, fmt.Sprint("SplitClass", list, i, m), code, impl.ErrRange, len(got) == 0)
			}
		}
		for _, m := range badParts {
			for i := range size {
				got, code := impl.SplitClass(list, i, m)
				wantCode(t, fmt.Sprint("SplitClass", list, i, m), code, impl.ErrRange, len(got) == 0)
			}
		}
	}
	badCounts := append([]int64{0, -1, -2, 9, 10, 256}, farNumbers...)
	for _, turns := range append(badTurns1(8), slots("a"), slots("abac"), slots("."), slots("abcdefgh"), sparse5(41, 0, 0), slots("aab")) {
		for _, k := range badCounts {
			list, code := impl.ClassesOfTurns(turns, k)
			wantCode(t, fmt.Sprint("ClassesOfTurns", turns, k), code, impl.ErrRange, len(list) == 0)
		}
	}
	// Turns of tasks that are not told come ahead of tasks without turns, or without equal waits.
	for k := int64(1); k <= 8; k++ {
		for _, turns := range append(badTurns1(k), append(slots("aab"), k), append(sparse5(60, 0, 0), k)) {
			list, code := impl.ClassesOfTurns(turns, k)
			wantCode(t, fmt.Sprint("ClassesOfTurns", turns, k), code, impl.ErrRange, len(list) == 0)
		}
	}
}

// spare5 is what stands behind the end of classes from withSpare5.
var spare5 = rows5(impl.Class{sentinel, sentinel}, impl.Class{sentinel, sentinel}, impl.Class{sentinel, sentinel}, impl.Class{sentinel, sentinel}, impl.Class{sentinel, sentinel}, impl.Class{sentinel, sentinel}, impl.Class{sentinel, sentinel}, impl.Class{sentinel, sentinel})

// withSpare5 returns the same classes with sentinels in their spare capacity.
func withSpare5(list []impl.Class) []impl.Class {
	return slices.Concat(list, spare5)[:len(list)]
}

// spareIsWhole5 reports whether classes from withSpare5 are these ones, and have their sentinels.
func spareIsWhole5(list, want []impl.Class) bool {
	long := list[:len(list)+len(spare5)]
	return slices.Equal(list, want) && slices.Equal(long[len(list):], spare5)
}

// TestMemory5 writes over results, and looks whether arguments, and what stands behind their ends,
// keep what they had.
func TestMemory5(t *testing.T) {
	listWas, turnsWas, gapsWas := rows5(impl.Class{0, 2}, impl.Class{1, 4}, impl.Class{3, 4}), slots("abac"), []int64{2, 4, 4}
	list, turns, gaps := withSpare5(listWas), withSpare(turnsWas), withSpare(gapsWas)
	classes := func(y []impl.Class, code int64) []impl.Class {
		if code != impl.ErrNone || len(y) == 0 {
			t.Errorf("a result is missing: %v, %d", y, code)
		}
		return y
	}
	calls := map[string]func() []impl.Class{
		"SplitClass first":  func() []impl.Class { return classes(impl.SplitClass(list, 0, 2)) },
		"SplitClass middle": func() []impl.Class { return classes(impl.SplitClass(list, 1, 3)) },
		"SplitClass last":   func() []impl.Class { return classes(impl.SplitClass(list, 2, 6)) },
		"ClassesOfTurns":    func() []impl.Class { return classes(impl.ClassesOfTurns(turns, 3)) },
		"FirstRests":        func() []impl.Class { return classes(impl.FirstRests(impl.Tasks{Gaps: gaps})) },
		"TurnsOfClasses": func() []impl.Class {
			y, _ := impl.TurnsOfClasses(list)
			kept := rows5(impl.Class{y[0], y[1]}, impl.Class{y[2], y[3]})
			overwrite(y)
			return kept
		},
		"the others": func() []impl.Class {
			for _, c := range ofClasses5 {
				c.run(list)
			}
			impl.AreClasses(list)
			impl.DoFit(impl.Tasks{Gaps: gaps})
			count, code := impl.CountRests(impl.Tasks{Gaps: gaps})
			return rows5(impl.Class{count, code})
		},
	}
	for name, call := range calls {
		first := call()
		kept := slices.Clone(first)
		first = first[:cap(first)]
		for i := range first {
			first[i] = impl.Class{sentinel, sentinel}
		}
		if !spareIsWhole5(list, listWas) || !spareIsWhole(turns, turnsWas) || !spareIsWhole(gaps, gapsWas) {
			t.Fatalf("%s shares memory with an argument, or changes it", name)
		}
		if !slices.Equal(call(), kept) {
			t.Errorf("%s returns something else on its second call", name)
		}
	}
}
