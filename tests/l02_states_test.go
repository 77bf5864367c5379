package tests

import (
	"fmt"
	"math/rand"
	"slices"
	"testing"

	"loop.example/g01404/impl"
)

// model2 has all states of tasks, and those that are left when again and again each state is struck
// out from which no open slot leads to a state that is left: the lasting ones.
type model2 struct {
	gaps   []int64
	states [][]int64
	left   map[string]bool
}

func modelOf2(gaps []int64) *model2 {
	m := &model2{gaps: gaps, states: [][]int64{nil}, left: map[string]bool{}}
	for _, gap := range gaps {
		var longer [][]int64
		for _, state := range m.states {
			for number := int64(1); number <= gap; number++ {
				longer = append(longer, append(slices.Clone(state), number))
			}
		}
		m.states = longer
	}
	for _, state := range m.states {
		m.left[key2(state)] = true
	}
	for {
		var gone []string
		for _, state := range m.states {
			if m.left[key2(state)] && len(m.keeping(state)) == 0 {
				gone = append(gone, key2(state))
			}
		}
		for _, key := range gone {
			delete(m.left, key)
		}
		if len(gone) == 0 {
			return m
		}
	}
}

func key2(state []int64) string {
	key := make([]byte, len(state))
	for i, number := range state {
		key[i] = byte(number)
	}
	return string(key)
}

// behind2 returns the state behind a slot, none if the slot is not open.
func behind2(gaps, state []int64, choice int64) []int64 {
	var behind []int64
	for i, number := range state {
		if int64(i) == choice {
			behind = append(behind, gaps[i])
		} else if number > 1 {
			behind = append(behind, number-1)
		} else {
			return nil
		}
	}
	return behind
}

func (m *model2) keeping(state []int64) []int64 {
	var choices []int64
	for choice := int64(-1); choice < int64(len(m.gaps)); choice++ {
		if behind := behind2(m.gaps, state, choice); behind != nil && m.left[key2(behind)] {
			choices = append(choices, choice)
		}
	}
	return choices
}

func (m *model2) lasting(state []int64) bool {
	return m.left[key2(state)]
}

func (m *model2) served() bool {
	return m.lasting(m.gaps)
}

// play returns the head and the round of the least play.
func (m *model2) play() ([]int64, []int64) {
	var came [][]int64
	var choices []int64
	state := m.gaps
	for {
		for at, old := range came {
			if slices.Equal(old, state) {
				return choices[:at], choices[at:]
			}
		}
		came = append(came, state)
		choice := m.keeping(state)[0]
		choices = append(choices, choice)
		state = behind2(m.gaps, state, choice)
	}
}

// kept returns how many of the choices, from the first one on, keep the states that come.
func (m *model2) kept(state, choices []int64) int64 {
	for n, choice := range choices {
		if !slices.Contains(m.keeping(state), choice) {
			return int64(n)
		}
		state = behind2(m.gaps, state, choice)
	}
	return int64(len(choices))
}

// serves2 reports whether a list of slots, of any length, serves tasks.
func serves2(gaps, turns []int64) bool {
	for i, gap := range gaps {
		waits := waits1(turns, int64(i))
		if len(waits) == 0 || slices.Max(waits) > gap {
			return false
		}
	}
	return true
}

// eachGaps2 calls f with all lists of at most four gaps that have at most so many states.
func eachGaps2(most int64, f func(gaps []int64)) {
	var extend func(gaps []int64, states int64)
	extend = func(gaps []int64, states int64) {
		if len(gaps) > 0 {
			f(slices.Clone(gaps))
		}
		for gap := int64(1); len(gaps) < 4 && gap <= impl.MaxGap && gap*states <= most; gap++ {
			extend(append(slices.Clone(gaps), gap), gap*states)
		}
	}
	extend(nil, 1)
}

// manyGaps2 are gaps with up to just MaxTaskStates states.
var manyGaps2 = [][]int64{{5, 5, 5, 5, 5}, {10, 10, 40}, {40, 10, 10}, {20, 20, 10}, {4, 4, 6, 6, 6}, {3, 6, 6, 6, 6}, {2, 4, 8, 8}, {8, 8, 2, 4}, {3, 4, 5, 6}, {4, 5, 6, 7}, {2, 38, 40}, {3, 36, 37}, {6, 25, 25}, {2, 3, 40}, {5, 3, 7, 8, 4}, {2, 2, 2, 2, 2, 5, 5, 5}, {2, 2, 2, 2, 2, 2, 2, 2}, {1, 1, 1, 1, 1, 1, 1, 1}, {4, 1, 3, 1, 2}, {40, 40}, {40, 1}, {7, 5, 6, 4, 4}, {4, 5, 5, 5, 8}}

// servedBy2 are gaps with the fewest slots of turns that serve them, and the least gap of each task.
var servedBy2 = []struct {
	gaps   []int64
	fewest int64
	least  []int64
}{
	{[]int64{1}, 1, []int64{1}},
	{[]int64{40}, 1, []int64{1}},
	{[]int64{2, 2}, 2, []int64{2, 2}},
	{[]int64{40, 40}, 2, []int64{2, 2}},
	{[]int64{2, 40}, 2, []int64{2, 2}},
	{[]int64{3, 3, 3}, 3, []int64{3, 3, 3}},
	{[]int64{3, 3, 40}, 3, []int64{3, 3, 3}},
	{[]int64{2, 4, 8}, 4, []int64{2, 4, 4}},
	{[]int64{2, 5, 5}, 4, []int64{2, 4, 4}},
	{[]int64{5, 2, 5}, 4, []int64{4, 2, 4}},
	{[]int64{2, 4, 8, 8}, 8, []int64{2, 4, 8, 8}},
	{[]int64{2, 6, 6, 6}, 6, []int64{2, 6, 6, 6}},
	{[]int64{3, 6, 6, 6, 6}, 6, []int64{3, 6, 6, 6, 6}},
	{[]int64{5, 5, 5, 5, 5}, 5, []int64{5, 5, 5, 5, 5}},
	{[]int64{10, 10, 40}, 3, []int64{2, 2, 2}},
}

func TestConstants2(t *testing.T) {
	if impl.MaxTaskStates != 4000 {
		t.Errorf("MaxTaskStates is %d", impl.MaxTaskStates)
	}
}

func TestCountStates(t *testing.T) {
	cases := []struct {
		gaps []int64
		want int64
	}{
		{[]int64{1}, 1}, {[]int64{40}, 40}, {[]int64{2, 2}, 4}, {[]int64{1, 1, 1}, 1}, {[]int64{3, 1, 5}, 15}, {[]int64{10, 10, 40}, 4000}, {[]int64{6, 23, 29}, 4002},
		{times(8, 1), 1}, {times(8, 2), 256}, {times(8, 40), 6553600000000}, {[]int64{40, 39, 38, 37, 36, 35, 34, 33}, 3100796899200},
	}
	for _, c := range cases {
		if count, code := impl.CountStates(tasksOf(c.gaps...)); count != c.want || code != impl.ErrNone {
			t.Errorf("CountStates(%v) = %d, %d", c.gaps, count, code)
		}
	}
}

// TestStates2 compares all functions of the chapter with the model for all states.
func TestStates2(t *testing.T) {
	eachGaps2(48, func(gaps []int64) { checkStates2(t, gaps) })
	for _, gaps := range manyGaps2 {
		checkStates2(t, gaps)
	}
}

func checkStates2(t *testing.T, gaps []int64) {
	t.Helper()
	m, tasks := modelOf2(gaps), tasksOf(gaps...)
	if count, code := impl.CountStates(tasks); count != int64(len(m.states)) || code != impl.ErrNone {
		t.Errorf("CountStates(%v) = %d, %d, not %d", gaps, count, code, len(m.states))
	}
	if count, code := impl.CountLasting(tasks); count != int64(len(m.left)) || code != impl.ErrNone {
		t.Errorf("CountLasting(%v) = %d, %d, not %d", gaps, count, code, len(m.left))
	}
	if can, code := impl.CanServe(tasks); can != m.served() || code != impl.ErrNone {
		t.Errorf("CanServe(%v) = %v, %d", gaps, can, code)
	}
	step := 1 + len(m.states)/500
	for n := 0; n < len(m.states); n += step {
		checkState2(t, m, tasks, m.states[n])
	}
	checkState2(t, m, tasks, m.gaps)
	if !m.served() {
		checkNotServed2(t, tasks)
		return
	}
	head, round, code := impl.LeastPlay(tasks)
	wantHead, wantRound := m.play()
	if !slices.Equal(head, wantHead) || !slices.Equal(round, wantRound) || code != impl.ErrNone {
		t.Errorf("LeastPlay(%v) = %v, %v, %d, not %v, %v", gaps, head, round, code, wantHead, wantRound)
	}
}

func checkState2(t *testing.T, m *model2, tasks impl.Tasks, state []int64) {
	t.Helper()
	if lasting, code := impl.IsLasting(tasks, state); lasting != m.lasting(state) || code != impl.ErrNone {
		t.Errorf("IsLasting(%v, %v) = %v, %d", m.gaps, state, lasting, code)
	}
	for choice := int64(-1); choice < int64(len(m.gaps)); choice++ {
		want, wantErr := behind2(m.gaps, state, choice), int64(impl.ErrNone)
		if want == nil {
			wantErr = impl.ErrNotFound
		}
		if behind, code := impl.StepState(tasks, state, choice); !slices.Equal(behind, want) || code != wantErr {
			t.Errorf("StepState(%v, %v, %d) = %v, %d, not %v", m.gaps, state, choice, behind, code, want)
		}
	}
	choices, code := impl.KeepingChoices(tasks, state)
	kept, also := impl.FirstKept(tasks, state, []int64{int64(len(m.gaps)) - 1})
	if !m.lasting(state) {
		wantCode(t, "KeepingChoices", code, impl.ErrState, len(choices) == 0)
		wantCode(t, "FirstKept", also, impl.ErrState, kept == 0)
		return
	}
	if !slices.Equal(choices, m.keeping(state)) || code != impl.ErrNone {
		t.Errorf("KeepingChoices(%v, %v) = %v, %d, not %v", m.gaps, state, choices, code, m.keeping(state))
	}
	if kept != m.kept(state, []int64{int64(len(m.gaps)) - 1}) || also != impl.ErrNone {
		t.Errorf("FirstKept(%v, %v) of the last task = %d, %d", m.gaps, state, kept, also)
	}
}

func checkNotServed2(t *testing.T, tasks impl.Tasks) {
	t.Helper()
	call := fmt.Sprint(tasks.Gaps)
	head, round, code := impl.LeastPlay(tasks)
	wantCode(t, "LeastPlay "+call, code, impl.ErrNotFound, len(head) == 0 && len(round) == 0)
	fewest, code := impl.FewestSlots(tasks)
	wantCode(t, "FewestSlots "+call, code, impl.ErrNotFound, fewest == 0)
	for i := range tasks.Gaps {
		gap, code := impl.LeastGap(tasks, int64(i))
		wantCode(t, "LeastGap "+call, code, impl.ErrNotFound, gap == 0)
	}
}

func TestStepState(t *testing.T) {
	cases := []struct {
		gaps, state []int64
		choice      int64
		want        []int64
	}{
		{[]int64{2, 2}, []int64{2, 2}, 0, []int64{2, 1}}, {[]int64{2, 2}, []int64{2, 2}, -1, []int64{1, 1}}, {[]int64{2, 2}, []int64{1, 2}, 0, []int64{2, 1}},
		{[]int64{2, 2}, []int64{1, 2}, 1, nil}, {[]int64{2, 2}, []int64{1, 2}, -1, nil}, {[]int64{2, 2}, []int64{1, 1}, 0, nil},
		{[]int64{1}, []int64{1}, 0, []int64{1}}, {[]int64{1}, []int64{1}, -1, nil}, {[]int64{40}, []int64{40}, -1, []int64{39}}, {[]int64{40}, []int64{2}, -1, []int64{1}}, {[]int64{40}, []int64{1}, 0, []int64{40}},
		{[]int64{9, 5, 7}, []int64{4, 1, 2}, 1, []int64{3, 5, 1}}, {[]int64{9, 5, 7}, []int64{4, 1, 1}, 1, nil},
		{times(8, 40), []int64{40, 39, 38, 37, 36, 35, 34, 33}, -1, []int64{39, 38, 37, 36, 35, 34, 33, 32}}, // far more than MaxTaskStates states
		{times(8, 40), []int64{40, 39, 38, 37, 36, 35, 34, 1}, 7, []int64{39, 38, 37, 36, 35, 34, 33, 40}},
		{times(8, 40), []int64{40, 39, 38, 37, 36, 35, 34, 1}, 0, nil},
	}
	for _, c := range cases {
		behind, code := impl.StepState(tasksOf(c.gaps...), c.state, c.choice)
		if c.want == nil {
			wantCode(t, "StepState", code, impl.ErrNotFound, len(behind) == 0)
		} else if !slices.Equal(behind, c.want) || code != impl.ErrNone {
			t.Errorf("StepState(%v, %v, %d) = %v, %d", c.gaps, c.state, c.choice, behind, code)
		}
	}
}

func TestCountLasting(t *testing.T) {
	cases := []struct {
		gaps []int64
		want int64
	}{
		{[]int64{2, 2}, 3}, {[]int64{1}, 1}, {[]int64{40}, 40}, {[]int64{1, 1}, 0}, {[]int64{2, 3, 40}, 0},
		// n tasks with gaps of n: the (n + 1) to the power of n - 1 parking functions.
		{[]int64{3, 3, 3}, 16}, {[]int64{4, 4, 4, 4}, 125}, {[]int64{5, 5, 5, 5, 5}, 1296},
		{[]int64{40, 40}, 1599}, {times(8, 1), 0}, {times(8, 2), 0}, {[]int64{2, 2, 2, 2, 2, 5, 5, 5}, 0},
	}
	for _, c := range cases {
		if count, code := impl.CountLasting(tasksOf(c.gaps...)); count != c.want || code != impl.ErrNone {
			t.Errorf("CountLasting(%v) = %d, %d, not %d", c.gaps, count, code, c.want)
		}
	}
}

func TestCanServe(t *testing.T) {
	yes := [][]int64{{1}, {40}, {2, 2}, {2, 4, 4}, {2, 4, 8, 8}, {3, 3, 3}, {5, 5, 5, 5, 5}, {10, 10, 40}, {4, 4, 6, 6, 6}, {3, 4, 5, 8}}
	no := [][]int64{{1, 1}, {1, 40}, {40, 1}, {2, 2, 40}, {2, 3, 6}, {3, 2, 40}, {3, 3, 4, 40}, {2, 2, 2, 2, 2, 5, 5, 5}, times(8, 2), times(8, 1)}
	for x := int64(1); x <= 40; x++ { // the density stays below 1, and yet no turns serve
		no = append(no, []int64{2, 3, x})
	}
	for _, gaps := range yes {
		if can, code := impl.CanServe(tasksOf(gaps...)); !can || code != impl.ErrNone {
			t.Errorf("CanServe(%v) = %v, %d", gaps, can, code)
		}
	}
	for _, gaps := range no {
		if can, code := impl.CanServe(tasksOf(gaps...)); can || code != impl.ErrNone {
			t.Errorf("CanServe(%v) = %v, %d", gaps, can, code)
		}
		checkNotServed2(t, tasksOf(gaps...))
	}
}

func TestKeepingChoices(t *testing.T) {
	cases := []struct{ gaps, state, want []int64 }{
		{[]int64{2, 2}, []int64{2, 1}, []int64{1}}, {[]int64{2, 2}, []int64{2, 2}, []int64{0, 1}}, {[]int64{1}, []int64{1}, []int64{0}}, {[]int64{2}, []int64{2}, []int64{-1, 0}}, {[]int64{2}, []int64{1}, []int64{0}},
		{[]int64{40, 40}, []int64{40, 40}, []int64{-1, 0, 1}}, {[]int64{3, 3}, []int64{3, 3}, []int64{-1, 0, 1}}, {[]int64{3, 3}, []int64{2, 2}, []int64{0, 1}}, {[]int64{10, 10, 40}, []int64{1, 2, 3}, []int64{0}},
		{[]int64{10, 10, 40}, []int64{2, 3, 4}, []int64{-1, 0, 1, 2}}, {[]int64{10, 10, 40}, []int64{2, 3, 3}, []int64{0, 1, 2}},
	}
	for _, c := range cases {
		if choices, code := impl.KeepingChoices(tasksOf(c.gaps...), c.state); !slices.Equal(choices, c.want) || code != impl.ErrNone {
			t.Errorf("KeepingChoices(%v, %v) = %v, %d", c.gaps, c.state, choices, code)
		}
	}
}

func TestLeastPlay(t *testing.T) {
	cases := []struct {
		gaps        []int64
		head, round string
	}{
		{[]int64{2, 2}, "a", "ba"}, {[]int64{1}, "", "a"}, {[]int64{3}, "", "..a"}, {[]int64{40}, "", "......................................." + "a"},
		{[]int64{3, 3}, ".a", "b.a"}, {[]int64{2, 4, 4}, "ab", "acab"},
	}
	for _, c := range cases {
		head, round, code := impl.LeastPlay(tasksOf(c.gaps...))
		if !slices.Equal(head, slots(c.head)) || !slices.Equal(round, slots(c.round)) || code != impl.ErrNone {
			t.Errorf("LeastPlay(%v) = %v, %v, %d", c.gaps, head, round, code)
		}
	}
	// A round may have more slots than turns may have.
	gaps := []int64{6, 24, 25}
	head, round, code := impl.LeastPlay(tasksOf(gaps...))
	if code != impl.ErrNone || len(round) <= impl.MaxTurns || !serves2(gaps, round) {
		t.Errorf("LeastPlay(%v) has a head of %d and a round of %d slots, code %d", gaps, len(head), len(round), code)
	}
}

func TestFewestSlotsAndLeastGaps(t *testing.T) {
	for _, c := range servedBy2 {
		tasks := tasksOf(c.gaps...)
		if fewest, code := impl.FewestSlots(tasks); fewest != c.fewest || code != impl.ErrNone {
			t.Errorf("FewestSlots(%v) = %d, %d, not %d", c.gaps, fewest, code, c.fewest)
		}
		for i, want := range c.least {
			if gap, code := impl.LeastGap(tasks, int64(i)); gap != want || code != impl.ErrNone {
				t.Errorf("LeastGap(%v, %d) = %d, %d, not %d", c.gaps, i, gap, code, want)
			}
		}
	}
	// Two turns or more in each 4 slots and one or more in each 6 need 12 slots: in
	// fewer, the shares that the gaps ask for are more than there are slots.
	if fewest, code := impl.FewestSlots(tasksOf(4, 4, 6, 6, 6)); fewest != 12 || code != impl.ErrNone {
		t.Errorf("FewestSlots of 4, 4, 6, 6, 6 is %d, %d", fewest, code)
	}
	for i, want := range []int64{4, 4, 6, 6, 6} {
		if gap, code := impl.LeastGap(tasksOf(4, 4, 6, 6, 6), int64(i)); gap != want || code != impl.ErrNone {
			t.Errorf("LeastGap of the task %d of 4, 4, 6, 6, 6 is %d, %d", i, gap, code)
		}
	}
}

// TestFewestSlotsAgainstTurns finds the fewest slots by trying all short turns.
func TestFewestSlotsAgainstTurns(t *testing.T) {
	most := map[int]int{1: 8, 2: 8, 3: 8, 4: 6}
	turnsOf := map[int][][]int64{}
	for k, n := range most {
		shortTurns(n, int64(k), func(turns []int64) {
			if !slices.Contains(turns, -1) { // an idle slot never makes turns shorter
				turnsOf[k] = append(turnsOf[k], turns)
			}
		})
		slices.SortStableFunc(turnsOf[k], func(a, b []int64) int { return len(a) - len(b) })
	}
	served := 0
	eachGaps2(200, func(gaps []int64) {
		if len(gaps) > 2 && !slices.IsSorted(gaps) {
			return
		}
		can, _ := impl.CanServe(tasksOf(gaps...))
		fewest, code := impl.FewestSlots(tasksOf(gaps...))
		at := slices.IndexFunc(turnsOf[len(gaps)], func(turns []int64) bool { return serves2(gaps, turns) })
		if at < 0 {
			if code == impl.ErrNone && fewest <= int64(most[len(gaps)]) {
				t.Errorf("FewestSlots(%v) = %d, but no turns with so many slots serve", gaps, fewest)
			}
			return
		}
		served++
		if want := len(turnsOf[len(gaps)][at]); !can || fewest != int64(want) || code != impl.ErrNone {
			t.Errorf("FewestSlots(%v) = %d, %d, not %d; CanServe %v", gaps, fewest, code, want, can)
		}
	})
	if served < 200 {
		t.Errorf("only %d tasks can be served by short turns", served)
	}
}

// TestPromise2: lasting states have choices that keep them, and rounds of least plays serve.
func TestPromise2(t *testing.T) {
	eachGaps2(40, func(gaps []int64) { checkPromise2(t, gaps) })
	for _, gaps := range [][]int64{{5, 5, 5, 5, 5}, {10, 10, 40}, {4, 4, 6, 6, 6}, {3, 4, 5, 8}, {2, 4, 8, 8}, {30, 31}} {
		checkPromise2(t, gaps)
	}
}

func checkPromise2(t *testing.T, gaps []int64) {
	t.Helper()
	tasks := tasksOf(gaps...)
	for _, state := range modelOf2(gaps).states[:min(200, len(modelOf2(gaps).states))] {
		lasting, _ := impl.IsLasting(tasks, state)
		choices, code := impl.KeepingChoices(tasks, state)
		if lasting != (code == impl.ErrNone) || lasting != (len(choices) > 0) {
			t.Errorf("the state %v of %v: lasting %v, choices %v, code %d", state, gaps, lasting, choices, code)
		}
		for _, choice := range choices {
			behind, open := impl.StepState(tasks, state, choice)
			still, _ := impl.IsLasting(tasks, behind)
			if kept, _ := impl.FirstKept(tasks, state, []int64{choice}); open != impl.ErrNone || !still || kept != 1 {
				t.Errorf("the choice %d does not keep the state %v of %v", choice, state, gaps)
			}
		}
	}
	can, _ := impl.CanServe(tasks)
	full, _ := impl.IsLasting(tasks, gaps)
	head, round, code := impl.LeastPlay(tasks)
	if can != full || can != (code == impl.ErrNone) {
		t.Errorf("%v: CanServe %v, the full state lasting %v, LeastPlay %d", gaps, can, full, code)
	}
	if !can {
		return
	}
	if len(round) == 0 || !serves2(gaps, round) {
		t.Errorf("the round %v behind %v does not serve %v", round, head, gaps)
	}
	if serve, code := impl.DoServe(tasks, round); len(round) <= impl.MaxTurns && (!serve || code != impl.ErrNone) {
		t.Errorf("DoServe(%v, %v) = %v, %d", gaps, round, serve, code)
	}
	if fewest, _ := impl.FewestSlots(tasks); fewest < 1 || fewest > int64(len(round)) {
		t.Errorf("the fewest slots of %v are %d, but a round has %d", gaps, fewest, len(round))
	}
}

// TestPromise12: least gaps can be served, and lesser ones cannot; greater ones can.
func TestPromise12(t *testing.T) {
	eachGaps2(120, func(gaps []int64) { checkPromise12(t, gaps) })
	for _, gaps := range [][]int64{{5, 5, 5, 5, 5}, {5, 5, 6, 6}, {10, 10, 40}, {4, 4, 6, 6, 6}, {3, 4, 5, 8}, {2, 4, 8, 8}, {2, 40, 40}, {3, 5, 9, 9}, {7, 7, 7, 7}} {
		checkPromise12(t, gaps)
	}
}

func checkPromise12(t *testing.T, gaps []int64) {
	t.Helper()
	if can, _ := impl.CanServe(tasksOf(gaps...)); !can {
		checkNotServed2(t, tasksOf(gaps...))
		return
	}
	for i := range gaps {
		least, code := impl.LeastGap(tasksOf(gaps...), int64(i))
		if code != impl.ErrNone || least < 1 || least > gaps[i] {
			t.Errorf("LeastGap(%v, %d) = %d, %d", gaps, i, least, code)
		}
		for gap := int64(1); gap <= gaps[i]; gap++ {
			other := slices.Clone(gaps)
			other[i] = gap
			if can, _ := impl.CanServe(tasksOf(other...)); can != (gap >= least) {
				t.Errorf("LeastGap(%v, %d) = %d, but CanServe(%v) = %v", gaps, i, least, other, can)
			}
		}
	}
}

// TestGreaterStates: if a state is lasting, each one whose numbers are not less is, too.
func TestGreaterStates(t *testing.T) {
	for _, gaps := range [][]int64{{2, 2}, {2, 4, 4}, {3, 3, 4}, {5, 6}, {3, 4, 6}, {2, 3, 8}} {
		states := modelOf2(gaps).states
		for _, state := range states {
			lasting, _ := impl.IsLasting(tasksOf(gaps...), state)
			for i := range gaps {
				greater := slices.Clone(state)
				greater[i]++
				if also, code := impl.IsLasting(tasksOf(gaps...), greater); lasting && code == impl.ErrNone && !also {
					t.Errorf("of %v the state %v is lasting, and %v is not", gaps, state, greater)
				}
			}
		}
	}
}

func TestFirstKept(t *testing.T) {
	cases := []struct {
		gaps, state []int64
		choices     string
		want        int64
	}{
		{[]int64{2, 2}, []int64{2, 2}, "aa", 1}, {[]int64{2, 2}, []int64{2, 2}, "", 0}, {[]int64{2, 2}, []int64{2, 2}, "aba", 3}, {[]int64{2, 2}, []int64{2, 2}, ".", 0}, {[]int64{2, 2}, []int64{2, 2}, "ab.ab", 2},
		{[]int64{2, 2}, []int64{1, 2}, "b", 0}, {[]int64{2, 2}, []int64{1, 2}, "abab", 4}, {[]int64{1}, []int64{1}, "a.aa", 1}, {[]int64{3}, []int64{3}, "..a..a...", 8}, {[]int64{3}, []int64{1}, ".", 0},
		{[]int64{2, 4, 4}, []int64{2, 4, 4}, "abacabacabaa", 11}, {[]int64{2, 4, 4}, []int64{2, 4, 4}, "abcabc", 2},
	}
	for _, c := range cases {
		if kept, code := impl.FirstKept(tasksOf(c.gaps...), c.state, slots(c.choices)); kept != c.want || code != impl.ErrNone {
			t.Errorf("FirstKept(%v, %v, %q) = %d, %d", c.gaps, c.state, c.choices, kept, code)
		}
	}
	if kept, code := impl.FirstKept(tasksOf(2, 2), []int64{2, 2}, slices.Repeat([]int64{0, 1}, 60)); kept != 120 || code != impl.ErrNone {
		t.Errorf("FirstKept of 120 choices = %d, %d", kept, code)
	}
	for _, none := range [][]int64{nil, {}} {
		if kept, code := impl.FirstKept(tasksOf(2, 2), []int64{2, 2}, none); kept != 0 || code != impl.ErrNone {
			t.Errorf("FirstKept of no choices = %d, %d", kept, code)
		}
		kept, code := impl.FirstKept(tasksOf(2, 2), []int64{1, 1}, none)
		wantCode(t, "FirstKept of no choices", code, impl.ErrState, kept == 0)
	}
}

// TestFirstKeptAgainstModel takes choices that keep, and at one place any choice.
func TestFirstKeptAgainstModel(t *testing.T) {
	numbers := rand.New(rand.NewSource(2))
	short := 0
	for _, gaps := range [][]int64{{1}, {4}, {2, 2}, {2, 4, 4}, {3, 3, 4}, {4, 5, 6, 7}, {10, 10, 40}, {5, 5, 5, 5, 5}, {4, 4, 6, 6, 6}} {
		m := modelOf2(gaps)
		for n := range 60 {
			start := m.states[numbers.Intn(len(m.states))]
			if n == 0 || !m.lasting(start) {
				start = m.gaps
			}
			choices := make([]int64, numbers.Intn(impl.MaxTurns+1))
			odd := numbers.Intn(len(choices) + 1)
			state := start
			for at := range choices {
				keeping := m.keeping(state)
				choices[at] = keeping[numbers.Intn(len(keeping))]
				state = behind2(gaps, state, choices[at])
			}
			if odd < len(choices) {
				choices[odd] = int64(numbers.Intn(len(gaps)+1)) - 1
			}
			want := m.kept(start, choices)
			if want < int64(len(choices)) {
				short++
			}
			if kept, code := impl.FirstKept(tasksOf(gaps...), start, choices); kept != want || code != impl.ErrNone {
				t.Errorf("FirstKept(%v, %v, %v) = %d, %d, not %d", gaps, start, choices, kept, code, want)
			}
		}
	}
	if short < 100 {
		t.Errorf("only %d lists have a choice that does not keep", short)
	}
}

// call2 are the functions of the chapter, with a name, as one call: whether the results beside the
// code are zero values, and the code.
type call2 struct {
	name string
	run  func(tasks impl.Tasks, state []int64, number int64) (bool, int64)
}

// calls2 returns the functions of tasks alone, those of a state, and those of a state with a choice.
func calls2() (ofTasks, ofState, ofChoice []call2) {
	ofTasks = []call2{
		{"CanServe", func(x impl.Tasks, _ []int64, _ int64) (bool, int64) {
			y, code := impl.CanServe(x)
			return !y, code
		}},
		{"CountLasting", func(x impl.Tasks, _ []int64, _ int64) (bool, int64) {
			y, code := impl.CountLasting(x)
			return y == 0, code
		}},
		{"LeastPlay", func(x impl.Tasks, _ []int64, _ int64) (bool, int64) {
			y, z, code := impl.LeastPlay(x)
			return len(y) == 0 && len(z) == 0, code
		}},
		{"FewestSlots", func(x impl.Tasks, _ []int64, _ int64) (bool, int64) {
			y, code := impl.FewestSlots(x)
			return y == 0, code
		}},
		{"LeastGap", func(x impl.Tasks, _ []int64, _ int64) (bool, int64) {
			y, code := impl.LeastGap(x, 0)
			return y == 0, code
		}},
	}
	ofState = []call2{
		{"IsLasting", func(x impl.Tasks, state []int64, _ int64) (bool, int64) {
			y, code := impl.IsLasting(x, state)
			return !y, code
		}},
		{"KeepingChoices", func(x impl.Tasks, state []int64, _ int64) (bool, int64) {
			y, code := impl.KeepingChoices(x, state)
			return len(y) == 0, code
		}},
	}
	ofChoice = []call2{
		{"StepState", func(x impl.Tasks, state []int64, choice int64) (bool, int64) {
			y, code := impl.StepState(x, state, choice)
			return len(y) == 0, code
		}},
		{"FirstKept", func(x impl.Tasks, state []int64, choice int64) (bool, int64) {
			y, code := impl.FirstKept(x, state, []int64{choice})
			return y == 0, code
		}},
		{"FirstKept of more", func(x impl.Tasks, state []int64, choice int64) (bool, int64) {
			y, code := impl.FirstKept(x, state, []int64{-1, -1, 0, choice})
			return y == 0, code
		}},
	}
	return ofTasks, ofState, ofChoice
}

// badStates2 are lists that are no states of tasks with these gaps.
func badStates2(gaps []int64) [][]int64 {
	bad := [][]int64{nil, {}, gaps[:len(gaps)-1], append(slices.Clone(gaps), 1), append(slices.Clone(gaps), 0), times(1000, 1)}
	for i, gap := range gaps {
		for _, number := range append([]int64{0, -1, gap + 1, 257, 256 + gap, -255}, farNumbers...) {
			state := slices.Clone(gaps)
			state[i] = number
			bad = append(bad, state)
		}
	}
	return bad
}

func TestErrors2(t *testing.T) {
	ofTasks, ofState, ofChoice := calls2()
	all := slices.Concat(ofTasks, ofState, ofChoice)
	want := func(c call2, code int64, x impl.Tasks, state []int64, number int64) {
		t.Helper()
		zero, got := c.run(x, state, number)
		wantCode(t, fmt.Sprint(c.name, x.Gaps, state, number), got, code, zero)
	}
	badChoices := append([]int64{-2, 3, 254, 255, 256, -256}, farNumbers...)
	for _, c := range all {
		for _, bad := range badTasks1() {
			want(c, impl.ErrInvalid, bad, bad.Gaps, 0)
			want(c, impl.ErrInvalid, bad, nil, -2) // tasks come first
		}
	}
	// Each list of gaps is with a full state: lasting, not lasting, and of too many states.
	for _, gaps := range [][]int64{{3, 2, 6}, {1, 2, 3}, {6, 23, 29}} {
		for _, c := range append(ofState, ofChoice...) {
			for _, bad := range badStates2(gaps) {
				want(c, impl.ErrRange, tasksOf(gaps...), bad, 0)
				want(c, impl.ErrRange, tasksOf(gaps...), bad, -2)
			}
		}
		for _, c := range ofChoice {
			for _, choice := range badChoices {
				want(c, impl.ErrRange, tasksOf(gaps...), gaps, choice)
				want(c, impl.ErrRange, tasksOf(gaps...), []int64{1, 1, 1}, choice) // ahead of slots that are not open
			}
		}
	}
	for _, gaps := range [][]int64{{6, 23, 29}, {40, 40, 40}, {2, 2, 2, 40, 40}, times(8, 3), times(8, 40)} {
		for _, c := range append(ofTasks, ofState...) {
			want(c, impl.ErrLimit, tasksOf(gaps...), gaps, 0)
			want(c, impl.ErrLimit, tasksOf(gaps...), times(len(gaps), 1), 0) // ahead of states that are not lasting
		}
		for _, c := range ofChoice[1:] {
			want(c, impl.ErrLimit, tasksOf(gaps...), gaps, 0)
			want(c, impl.ErrLimit, tasksOf(gaps...), times(len(gaps), 1), 0)
		}
	}
	for _, c := range slices.Concat(ofState[1:], ofChoice[1:]) {
		want(c, impl.ErrState, tasksOf(2, 2), []int64{1, 1}, 0)
		want(c, impl.ErrState, tasksOf(2, 2, 2, 2, 2, 5, 5, 5), []int64{2, 2, 2, 2, 2, 5, 5, 5}, 7)
		want(c, impl.ErrState, tasksOf(10, 10, 40), []int64{2, 2, 2}, -1)
	}
	for _, bad := range badTasks1() {
		count, code := impl.CountStates(bad)
		wantCode(t, "CountStates", code, impl.ErrInvalid, count == 0)
	}
}

// TestErrorsOfNumbers2 has the bad numbers of LeastGap, and the bad lists of FirstKept.
func TestErrorsOfNumbers2(t *testing.T) {
	for _, gaps := range [][]int64{{2, 4, 8}, {2, 2, 2}, {6, 23, 29}, {40}, times(8, 2)} {
		tasks := tasksOf(gaps...)
		for _, i := range append([]int64{-1, -2, int64(len(gaps)), int64(len(gaps)) + 1, 256}, farNumbers...) {
			gap, code := impl.LeastGap(tasks, i)
			wantCode(t, fmt.Sprint("LeastGap", gaps, i), code, impl.ErrRange, gap == 0)
			gap, code = impl.LeastGap(tasksOf(append(gaps, 41)...), i)
			wantCode(t, fmt.Sprint("LeastGap", gaps, 41, i), code, impl.ErrInvalid, gap == 0)
		}
		for _, bad := range [][]int64{times(121, 0), times(121, -1), times(5000, 0), append(times(119, 0), -2), append(times(119, 0), int64(len(gaps)))} {
			kept, code := impl.FirstKept(tasks, gaps, bad)
			wantCode(t, fmt.Sprint("FirstKept", gaps, len(bad)), code, impl.ErrRange, kept == 0)
			kept, code = impl.FirstKept(tasks, times(len(gaps), 1), bad)
			wantCode(t, fmt.Sprint("FirstKept", gaps, len(bad)), code, impl.ErrRange, kept == 0)
			kept, code = impl.FirstKept(tasksOf(append(gaps, 41)...), gaps, bad)
			wantCode(t, fmt.Sprint("FirstKept", gaps, 41), code, impl.ErrInvalid, kept == 0)
		}
	}
	if gap, code := impl.LeastGap(tasksOf(2, 4, 8), 2); gap != 4 || code != impl.ErrNone {
		t.Errorf("LeastGap = %d, %d", gap, code)
	}
}

// TestMostStates has tasks with just MaxTaskStates states, and with a few more.
func TestMostStates(t *testing.T) {
	ofTasks, ofState, ofChoice := calls2()
	for _, c := range slices.Concat(ofTasks, ofState, ofChoice) {
		for _, gaps := range [][]int64{{10, 10, 40}, {40, 10, 10}, {20, 20, 10}, {5, 20, 40}} {
			if _, code := c.run(tasksOf(gaps...), gaps, 0); code != impl.ErrNone {
				t.Errorf("%s of %v: code %d", c.name, gaps, code)
			}
		}
		code := int64(impl.ErrLimit)
		if c.name == "StepState" {
			code = impl.ErrNone
		}
		for _, gaps := range [][]int64{{6, 23, 29}, {29, 23, 6}, {12, 12, 28}} {
			if zero, got := c.run(tasksOf(gaps...), gaps, 0); got != code || code != impl.ErrNone && !zero {
				t.Errorf("%s of %v: code %d, not %d", c.name, gaps, got, code)
			}
		}
	}
}

// TestMemory2 writes over results, and looks whether arguments, what stands behind their ends, and
// the other results of the call keep what they had.
func TestMemory2(t *testing.T) {
	gapsWere, stateWas, choicesWere := []int64{2, 4, 4}, []int64{2, 3, 4}, []int64{0, 1, 0, 2}
	gaps, state, choices := withSpare(gapsWere), withSpare(stateWas), withSpare(choicesWere)
	tasks := impl.Tasks{Gaps: gaps}
	calls := map[string]func() []int64{
		"StepState":      func() []int64 { y, _ := impl.StepState(tasks, state, 0); return y },
		"KeepingChoices": func() []int64 { y, _ := impl.KeepingChoices(tasks, state); return y },
		"LeastPlay head": func() []int64 { y, _, _ := impl.LeastPlay(tasks); return y },
		"LeastPlay":      func() []int64 { _, y, _ := impl.LeastPlay(tasks); return y },
		"the others": func() []int64 {
			count, _ := impl.CountStates(tasks)
			lasting, _ := impl.CountLasting(tasks)
			impl.IsLasting(tasks, state)
			impl.CanServe(tasks)
			fewest, _ := impl.FewestSlots(tasks)
			gap, _ := impl.LeastGap(tasks, 1)
			kept, _ := impl.FirstKept(tasks, state, choices)
			return []int64{count, lasting, fewest, gap, kept}
		},
	}
	for name, call := range calls {
		first := call()
		kept := slices.Clone(first)
		overwrite(first)
		if len(kept) == 0 || !spareIsWhole(gaps, gapsWere) || !spareIsWhole(state, stateWas) || !spareIsWhole(choices, choicesWere) {
			t.Fatalf("%s shares memory with an argument, or changes it", name)
		}
		if !slices.Equal(call(), kept) {
			t.Errorf("%s returns something else on its second call", name)
		}
	}
	head, round, _ := impl.LeastPlay(tasks)
	roundWas := slices.Clone(round)
	overwrite(head)
	if !slices.Equal(round, roundWas) {
		t.Errorf("both results of LeastPlay share memory")
	}
}
