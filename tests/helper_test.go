package tests

import (
	"math"
	"math/rand"
	"slices"
	"testing"

	"loop.example/g01404/impl"
)

// sentinel stands behind the end of arguments, and in results that are written over: no function
// may carry it from one to the other.
const sentinel = 77777

// farNumbers are numbers far beyond every limit, at both ends of int64 among them.
var farNumbers = []int64{math.MinInt64, math.MinInt64 + 1, math.MinInt32, math.MaxInt32, 1 << 32, math.MaxInt64 - 1, math.MaxInt64}

// tasksOf returns tasks with the given gaps.
func tasksOf(gaps ...int64) impl.Tasks {
	return impl.Tasks{Gaps: gaps}
}

// times returns a list with n times the same number.
func times(n int, x int64) []int64 {
	return slices.Repeat([]int64{x}, n)
}

// withSpare returns a list with the same elements and sentinels in its spare capacity.
func withSpare(list []int64) []int64 {
	long := append(slices.Clone(list), sentinel, sentinel, sentinel, sentinel)
	return long[:len(list)]
}

// spareIsWhole reports whether a list from withSpare has these elements and its sentinels.
func spareIsWhole(list, want []int64) bool {
	long := list[:len(list)+4]
	return slices.Equal(list, want) && slices.Equal(long[len(list):], times(4, sentinel))
}

// overwrite writes the sentinel to all memory of a list.
func overwrite(list []int64) {
	list = list[:cap(list)]
	for i := range list {
		list[i] = sentinel
	}
}

// slots returns the turns with a text, written here without the program.
func slots(text string) []int64 {
	list := make([]int64, len(text))
	for i := range text {
		list[i] = int64(text[i]) - 'a'
		if text[i] == '.' {
			list[i] = -1
		}
	}
	return list
}

// shortTurns calls f with all turns of 1 to most slots with the tasks 0 to k - 1 and idle slots.
func shortTurns(most int, k int64, f func(turns []int64)) {
	var extend func(list []int64)
	extend = func(list []int64) {
		if len(list) > 0 {
			f(slices.Clone(list))
		}
		if len(list) == most {
			return
		}
		for who := int64(-1); who < k; who++ {
			extend(append(list, who))
		}
	}
	extend(nil)
}

// longTurns calls f with turns of 1 to MaxTurns slots with up to MaxTasks tasks, the same ones on
// each run.
func longTurns(f func(turns []int64)) {
	numbers := rand.New(rand.NewSource(1))
	for n := 1; n <= impl.MaxTurns; n++ {
		for k := 1; k <= impl.MaxTasks; k++ {
			list := make([]int64, n)
			for i := range list {
				list[i] = int64(numbers.Intn(k+1)) - 1
			}
			f(list)
		}
	}
}

// wantCode fails the test if a call did not return the code and, beside an error, zero values.
func wantCode(t *testing.T, call string, got, want int64, zero bool) {
	t.Helper()
	if got != want {
		t.Errorf("%s: code %d, not %d", call, got, want)
	}
	if want != impl.ErrNone && !zero {
		t.Errorf("%s: the results beside the error %d are not zero values", call, want)
	}
}
