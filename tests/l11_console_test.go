package tests

import (
	"fmt"
	"math/rand"
	"regexp"
	"slices"
	"strconv"
	"strings"
	"testing"

	"loop.example/g01404/impl"
)

// new11 is the new desk.
const new11 = "2,4,4;abac;2,1"

// numbers11 returns the numbers of a text with commas, written here without the program.
func numbers11(text string) []int64 {
	var list []int64
	for _, word := range strings.Split(text, ",") {
		n, err := strconv.ParseInt(word, 10, 64)
		if err != nil {
			panic(err)
		}
		list = append(list, n)
	}
	return list
}

// desk11 returns the desk with a text: its gaps, its turns and its rates.
func desk11(text string) impl.Desk {
	parts := strings.Split(text, ";")
	return impl.Desk{Tasks: tasksOf(numbers11(parts[0])...), Turns: slots(parts[1]), Garden: gardenOf(numbers11(parts[2])...)}
}

// text11 returns the text of a desk.
func text11(d impl.Desk) string {
	turns := make([]byte, len(d.Turns))
	for slot, who := range d.Turns {
		turns[slot] = ".abcdefgh"[who+1]
	}
	return list11(d.Tasks.Gaps, ",") + ";" + string(turns) + ";" + list11(d.Garden.Rates, ",")
}

// list11 returns the text of a list.
func list11(list []int64, between string) string {
	return strings.ReplaceAll(strings.Trim(fmt.Sprint(list), "[]"), " ", between)
}

// isZero11 reports whether a desk is the zero value.
func isZero11(d impl.Desk) bool {
	return len(d.Tasks.Gaps) == 0 && len(d.Turns) == 0 && len(d.Garden.Rates) == 0
}

// parts11 are the lists of a desk.
func parts11(d impl.Desk) [][]int64 {
	return [][]int64{d.Tasks.Gaps, d.Turns, d.Garden.Rates}
}

// spare11 returns the same desk with sentinels in the spare capacity of its lists.
func spare11(d impl.Desk) impl.Desk {
	return impl.Desk{Tasks: impl.Tasks{Gaps: withSpare(d.Tasks.Gaps)}, Turns: withSpare(d.Turns), Garden: impl.Garden{Rates: withSpare(d.Garden.Rates)}}
}

// copy11 returns the same desk in memory of its own.
func copy11(d impl.Desk) impl.Desk {
	return impl.Desk{Tasks: impl.Tasks{Gaps: slices.Clone(d.Tasks.Gaps)}, Turns: slices.Clone(d.Turns), Garden: impl.Garden{Rates: slices.Clone(d.Garden.Rates)}}
}

// apart11 writes over a desk, list by list, and reports whether each of its lists keeps till then what it had.
func apart11(d impl.Desk) bool {
	were, apart := parts11(copy11(d)), true
	for at, list := range parts11(d) {
		apart = apart && slices.Equal(list, were[at])
		overwrite(list)
	}
	return apart
}

// run11 runs a line on a desk, and looks whether the desk given is as before, and shares no memory with the one
// returned, which is a desk, and the same one if the output is error.
func run11(t *testing.T, d impl.Desk, line string) (impl.Desk, string) {
	t.Helper()
	given := spare11(d)
	after, output := impl.RunLine(given, line)
	got := copy11(after)
	if !impl.IsDesk(got) {
		t.Fatalf("%q on %s leads to no desk: %v", line, text11(d), got)
	}
	if output == "error" && text11(got) != text11(d) {
		t.Errorf("%q on %s has the output error, but leads to %s", line, text11(d), text11(got))
	}
	if !apart11(after) {
		t.Errorf("%q on %s: lists of the desk returned share memory", line, text11(d))
	}
	for at, list := range parts11(given) {
		if !spareIsWhole(list, parts11(d)[at]) {
			t.Errorf("%q on %s changes the desk given, or shares memory with it", line, text11(d))
		}
	}
	return got, output
}

// case11 is a line on a desk, its output, and the desk behind it, the same one if it is empty.
type case11 struct {
	desk, line, output, after string
}

// check11 fails the test if a line has not this output, or does not lead to this desk.
func check11(t *testing.T, c case11) {
	t.Helper()
	if c.after == "" {
		c.after = c.desk
	}
	after, output := run11(t, desk11(c.desk), c.line)
	if output != c.output || text11(after) != c.after {
		t.Errorf("%q on %s = %s, %q, not %s, %q", c.line, c.desk, text11(after), output, c.after, c.output)
	}
}

// wrong11 fails the test if one of the lines on a desk has another output than error, or changes it.
func wrong11(t *testing.T, desk string, lines ...string) {
	t.Helper()
	for _, line := range lines {
		check11(t, case11{desk, line, "error", ""})
	}
}

func TestConstants11(t *testing.T) {
	if impl.MaxConsole != 4000 || impl.MaxLines != 40 {
		t.Errorf("limits %d, %d", impl.MaxConsole, impl.MaxLines)
	}
}

func TestNewDesk(t *testing.T) {
	for range 3 {
		d := impl.NewDesk()
		if !slices.Equal(d.Tasks.Gaps, []int64{2, 4, 4}) || !slices.Equal(d.Turns, []int64{0, 1, 0, 2}) || !slices.Equal(d.Garden.Rates, []int64{2, 1}) || !impl.IsDesk(d) {
			t.Errorf("NewDesk() = %v", d)
		}
		// What is written over it must not come again.
		if !apart11(d) {
			t.Error("lists of the new desk share memory")
		}
	}
}

// goodParts11 are tasks, turns and rates at their limits, and between them.
var goodParts11 = [3][]string{
	{"1", "40", "2,4,4", "1,1,1,1,1,1,1,1", "40,40,40,40,40,40,40,40", "40,1"},
	{"a", "h", ".", "abac", "abcdefgh", strings.Repeat("a", 120), strings.Repeat(".h", 60), strings.Repeat(".", 119) + "a"},
	{"1", "20", "2,1", "1,1,1,1,1,1,1,1", "20,20,20,20,20,20,20,20", "20,1"},
}

func TestIsDesk(t *testing.T) {
	for _, gaps := range goodParts11[0] {
		for _, turns := range goodParts11[1] {
			for _, rates := range goodParts11[2] {
				if text := gaps + ";" + turns + ";" + rates; !impl.IsDesk(desk11(text)) {
					t.Errorf("IsDesk(%s) = false", text)
				}
			}
		}
	}
	for _, bad := range noDesks11() {
		if given := copy11(bad); impl.IsDesk(bad) || !slices.EqualFunc(parts11(bad), parts11(given), slices.Equal[[]int64]) {
			t.Errorf("IsDesk(%v) = true, or changes it", bad)
		}
	}
	for n := range 130 {
		d := desk11(new11)
		d.Turns = times(n, 3)
		if impl.IsDesk(d) != (n >= 1 && n <= 120) {
			t.Errorf("IsDesk with %d turns is wrong", n)
		}
		d = desk11(new11)
		d.Tasks.Gaps = times(n, 3)
		if impl.IsDesk(d) != (n >= 1 && n <= 8) {
			t.Errorf("IsDesk with %d tasks is wrong", n)
		}
		d = desk11(new11)
		d.Garden.Rates = times(n, 3)
		if impl.IsDesk(d) != (n >= 1 && n <= 8) {
			t.Errorf("IsDesk with %d plants is wrong", n)
		}
	}
	for n := int64(-60); n <= 60; n++ {
		for at, limits := range [][2]int64{{1, 40}, {-1, 7}, {1, 20}} {
			d := desk11(new11)
			parts11(d)[at][1] = n
			if impl.IsDesk(d) != (n >= limits[0] && n <= limits[1]) {
				t.Errorf("IsDesk(%v) is wrong", d)
			}
		}
	}
}

// noDesks11 are desks of which one part, or several ones, are none.
func noDesks11() []impl.Desk {
	bad := []impl.Desk{{}, {Tasks: tasksOf(2, 4, 4)}, {Turns: slots("abac")}, {Garden: gardenOf(2, 1)}}
	for _, tasks := range badTasks1() {
		d := desk11(new11)
		d.Tasks = tasks
		bad = append(bad, d)
	}
	for _, turns := range badTurns1(8) {
		d := desk11(new11)
		d.Turns = turns
		bad = append(bad, d)
	}
	for _, garden := range badGardens6() {
		d := desk11(new11)
		d.Garden = garden
		bad = append(bad, d, impl.Desk{Tasks: tasksOf(0), Turns: slots("a"), Garden: garden}, impl.Desk{Tasks: tasksOf(1), Turns: []int64{8}, Garden: garden})
	}
	return bad
}

// TestNoDesks11: RunLine refuses desks that are none, whatever the line tells.
func TestNoDesks11(t *testing.T) {
	lines := []string{"", " ", "reset", "fly", "density", "garden 2 1", "tasks 2,4,4", "turns abac", "show", "look", "see", "mean 0"}
	for _, bad := range noDesks11() {
		for _, line := range lines {
			given := copy11(bad)
			d, output := impl.RunLine(bad, line)
			if !isZero11(d) || output != "" {
				t.Errorf("RunLine(%v, %q) = %v, %q", given, line, d, output)
			}
			if !slices.EqualFunc(parts11(bad), parts11(given), slices.Equal[[]int64]) {
				t.Errorf("RunLine(%v, %q) changes it to %v", given, line, bad)
			}
		}
	}
}

// TestLinesOfTasks has the lines that change tasks, or put them out.
func TestLinesOfTasks(t *testing.T) {
	for _, c := range []case11{
		{new11, "tasks 5,2,3", "5,2,3", "5,2,3;abac;2,1"}, {new11, "tasks 1", "1", "1;abac;2,1"}, {new11, "tasks 2,4,4", "2,4,4", ""}, {"3;.h;7", "tasks 40,1", "40,1", "40,1;.h;7"},
		{new11, "tasks 40,40,40,40,40,40,40,40", "40,40,40,40,40,40,40,40", "40,40,40,40,40,40,40,40;abac;2,1"},
		{"5,2,3;abac;2,1", "sort", "2,3,5", "2,3,5;abac;2,1"}, {"40,1,40,1;.h;7", "sort", "1,1,40,40", "1,1,40,40;.h;7"}, {new11, "sort", "2,4,4", ""}, {"7;a;1", "sort", "7", ""}, {"8,7,6,5,4,3,2,1;a;1", "sort", "1,2,3,4,5,6,7,8", "1,2,3,4,5,6,7,8;a;1"},
		{new11, "needs 4", "2,4", "2,4;abac;2,1"}, {new11, "needs 2", "1,2", "1,2;abac;2,1"}, {new11, "needs 40", "20,40", "20,40;abac;2,1"}, {"3;.h;20,1,7", "needs 20", "1,20,2", "1,20,2;.h;20,1,7"}, {"3;.h;20", "needs 819", "40", "40;.h;20"}, {"3;.h;20", "needs 800", "40", "40;.h;20"},
		{new11, "show", "2,4,4", ""}, {"40;.h;7", "show", "40", ""}, {"40,1,40;.h;7", "show", "40,1,40", ""}, {"1,2,3,4,5,6,7,8;a;1", "show", "1,2,3,4,5,6,7,8", ""},
		{new11, "density", "1/1", ""}, {"2,3;a;1", "density", "5/6", ""}, {"1,1;a;1", "density", "2/1", ""}, {"40;abac;2,1", "density", "1/40", ""}, {"2,4;a;1", "density", "3/4", ""}, {"1,1,1,1,1,1,1,1;a;1", "density", "8/1", ""},
		{new11, "can", "yes", ""}, {"2,3,12;a;1", "can", "no", ""}, {"1;h;1", "can", "yes", ""}, {"1,40;a;1", "can", "no", ""}, {"2,2;.;1", "can", "yes", ""},
		{"2,2;a;1", "lasting", "3", ""}, {"1;a;1", "lasting", "1", ""}, {"2,2,2;a;1", "lasting", "0", ""}, {"1,1;a;1", "lasting", "0", ""}, {"40;a;1", "lasting", "40", ""},
		{new11, "fewest", "4", ""}, {"2,2;a;1", "fewest", "2", ""}, {"1;abac;2,1", "fewest", "1", ""}, {"40;abac;2,1", "fewest", "1", ""},
		{new11, "gap 1", "4", ""}, {new11, "gap 0", "2", ""}, {new11, "gap 2", "4", ""}, {"40;a;1", "gap 0", "1", ""}, {"2,40;a;1", "gap 1", "2", ""}, {"9,2;a;1", "gap 0", "2", ""},
		{new11, "keep 2 4 4", "0 1 2", ""}, {new11, "keep 1 4 4", "0", ""}, {new11, "keep 2 1 4", "1", ""}, {"4;a;1", "keep 4", "-1 0", ""}, {"4;a;1", "keep 1", "0", ""}, {"8,8,8;a;1", "keep 8 8 8", "-1 0 1 2", ""},
		{new11, "channels", "1", ""}, {"1,2,2;a;1", "channels", "2", ""}, {"1,1,1,1;a;1", "channels", "4", ""}, {"1,1,1;a;1", "channels", "3", ""},
		{new11, "split 2", "0 0 0", ""}, {"1,2,2;a;1", "split 2", "0 1 1", ""}, {"1,1,1,1;a;1", "split 4", "0 1 2 3", ""}, {"7;a;1", "split 1", "0", ""}, {"2,1,2;a;1", "split 3", "0 1 0", ""},
	} {
		check11(t, c)
	}
	wrong11(t, new11, "tasks 41", "tasks 0", "tasks 02", "tasks 2,", "tasks ,2", "tasks 2,,4", "tasks ,", "tasks 1,1,1,1,1,1,1,1,1", "tasks -1", "tasks +2", "tasks a", "tasks abac", "tasks 2;4", "tasks 2.", "tasks 2\t", "tasks\t2", "tasks 2,4\n", "tasks 2,4\r")
	wrong11(t, new11, "needs 1", "needs 0", "needs 41", "needs 1000", "needs 1001", "needs 999999999", "gap 3", "gap 8", "gap 999999999", "keep 1 1 4", "keep 2 4", "keep 2", "keep 2 4 4 4", "keep 3 4 4", "keep 2 4 5", "keep 0 4 4", "keep 2 4 0", "keep 2 4 999999999", "split 0", "split 5", "split 999999999")
	wrong11(t, "3;.h;20", "needs 820", "needs 19", "needs 1000")
	wrong11(t, "2,3,12;abac;2,1", "play", "fewest", "gap 0", "gap 1", "gap 2", "keep 2 3 12", "split 1")
	wrong11(t, "40,40,40;abac;2,1", "play", "can", "lasting", "fewest", "gap 0", "keep 40 40 40", "channels", "split 1", "split 4") // too many states
	wrong11(t, "1,1,1,1,1;abac;2,1", "channels", "split 4", "split 1", "fewest", "play", "gap 4")
}

// TestLinesOfTurns has the lines that change turns, or put them out, but for those of TestLongRounds.
func TestLinesOfTurns(t *testing.T) {
	a120 := strings.Repeat("a", 120)
	mixed := strings.Repeat("ab.h", 30)
	for _, c := range []case11{
		{new11, "turns ab", "ab", "2,4,4;ab;2,1"}, {new11, "turns .", ".", "2,4,4;.;2,1"}, {new11, "turns h", "h", "2,4,4;h;2,1"}, {"7;a;9", "turns abcdefgh.", "abcdefgh.", "7;abcdefgh.;9"}, {new11, "turns " + a120, a120, "2,4,4;" + a120 + ";2,1"}, {new11, "turns " + mixed, mixed, "2,4,4;" + mixed + ";2,1"},
		{new11, "shift 0", "abac", ""}, {new11, "shift 1", "baca", "2,4,4;baca;2,1"}, {new11, "shift 3", "caba", "2,4,4;caba;2,1"}, {new11, "shift 4", "abac", ""}, {"7;a..b;9", "shift 1", "..ba", "7;..ba;9"}, {"7;a;9", "shift 1", "a", ""}, {"7;" + mixed + ";9", "shift 117", "b.h" + strings.Repeat("ab.h", 29) + "a", "7;b.h" + strings.Repeat("ab.h", 29) + "a;9"},
		{new11, "reverse", "caba", "2,4,4;caba;2,1"}, {"7;.ab;9", "reverse", "ba.", "7;ba.;9"}, {"7;h;9", "reverse", "h", ""},
		{"2,4,4;caba;2,1", "least", "abac", new11}, {"7;cba;9", "least", "acb", "7;acb;9"}, {"7;b.a;9", "least", ".ab", "7;.ab;9"}, {"7;a;9", "least", "a", ""}, {new11, "least", "abac", ""},
		{new11, "play", "acab", "2,4,4;acab;2,1"}, {"1;abac;2,1", "play", "a", "1;a;2,1"}, {"4;h;9", "play", "...a", "4;...a;9"}, {"2,2;abac;2,1", "play", "ba", "2,2;ba;2,1"},
		{new11, "share 2 1", "aba", "2,4,4;aba;2,1"}, {new11, "share 1", "a", "2,4,4;a;2,1"}, {new11, "share 120", a120, "2,4,4;" + a120 + ";2,1"}, {"7;.;9", "share 1 1 1 1 1 1 1 1", "abcdefgh", "7;abcdefgh;9"}, {"7;.;9", "share 1 2", "bab", "7;bab;9"}, {new11, "share 60 60", strings.Repeat("ab", 60), "2,4,4;" + strings.Repeat("ab", 60) + ";2,1"},
		{new11, "look", "abac", ""}, {"40;.h;7", "look", ".h", ""}, {"40;" + mixed + ";7", "look", mixed, ""}, {"40;a;7", "look", "a", ""},
		{new11, "serve", "yes", ""}, {"2,4,4;ab;2,1", "serve", "no", ""}, {"2;a.;1", "serve", "yes", ""}, {"2;a..;1", "serve", "no", ""}, {"2;.;1", "serve", "no", ""},
		{"2,4,4;abab;2,1", "miss", "0 2", ""}, {"2,4,4;aabc;2,1", "miss", "2 0", ""}, {"2;.;1", "miss", "0 0", ""}, {"40,2;" + strings.Repeat("ab", 59) + "a.;1", "miss", "118 1", ""},
		{new11, "waits 0", "2 2", ""}, {new11, "waits 1", "4", ""}, {new11, "waits 3", "none", ""}, {new11, "waits 7", "none", ""}, {"7;.;9", "waits 0", "none", ""}, {"7;aa.ha;9", "waits 0", "1 3 1", ""}, {"7;aa.ha;9", "waits 7", "5", ""}, {"7;" + a120 + ";9", "waits 0", strings.Repeat("1 ", 119) + "1", ""},
		{new11, "greatest", "2 4 4", ""}, {"7;ac;9", "greatest", "2 0 2", ""}, {"7;.;9", "greatest", "none", ""}, {"7;....;9", "greatest", "none", ""}, {"7;..h;9", "greatest", "0 0 0 0 0 0 0 3", ""}, {"7;a;9", "greatest", "1", ""},
		{new11, "shares", "2 1 1 0", ""}, {"7,7,7;a..b;9", "shares", "1 1 0 2", ""}, {"2;a;1", "shares", "1 0", ""}, {"2;.;1", "shares", "0 1", ""}, {"2;" + a120 + ";1", "shares", "120 0", ""}, {"1,2,3,4,5,6,7,8;h..;1", "shares", "0 0 0 0 0 0 0 1 2", ""},
		{new11, "period", "4", ""}, {"7;abab;9", "period", "2", ""}, {"7;ab.ab.;9", "period", "3", ""}, {"7;" + a120 + ";9", "period", "1", ""}, {"7;" + a120[1:] + "b;9", "period", "120", ""},
		{new11, "mean 0", "1/2", ""}, {new11, "mean 1", "3/2", ""}, {"7;a;9", "mean 0", "0/1", ""}, {"7;" + a120[1:] + "h;9", "mean 7", "119/2", ""}, {"7;a...;9", "mean 0", "3/2", ""},
		{new11, "both 0 1", "7/4", ""}, {new11, "both 1 0", "7/4", ""}, {new11, "both 0 0", "1/2", ""}, {new11, "both 1 2", "5/2", ""}, {"7;a;9", "both 0 0", "0/1", ""}, {"7;.h;9", "both 7 7", "1/2", ""},
		{new11, "wait 2 0", "3", ""}, {new11, "wait 0 2", "0", ""}, {new11, "wait 0 0", "0", ""}, {new11, "wait 1 2", "3", ""}, {new11, "wait 0 3", "1", ""}, {"7;h" + a120[1:] + ";9", "wait 7 1", "119", ""}, {"7;h" + a120[1:] + ";9", "wait 7 119", "1", ""},
		{new11, "worst 1", "2 3", ""}, {new11, "worst 0", "1 1", ""}, {"7;a;9", "worst 0", "0 0", ""}, {"7;h" + a120[1:] + ";9", "worst 7", "1 119", ""},
	} {
		check11(t, c)
	}
	wrong11(t, new11, "turns i", "turns A", "turns a,b", "turns -", "turns 0", "turns ab\n", "turns ab\r", "turns \x00", "turns\tab", "turns "+a120+"a", "turns "+strings.Repeat("a", 5000), "turns é")
	wrong11(t, new11, "shift 5", "shift 120", "shift 999999999", "share 0", "share 121", "share 2 0", "share 0 2", "share 60 61", "share 120 1", "share 1 1 1 1 1 1 1 1 1", "share 999999999", "miss", "waits 8", "waits 999999999", "mean 3", "mean 8", "both 0 3", "both 3 0", "both 0 8", "both 8 0", "wait 0 4", "wait 3 0", "wait 8 0", "wait 0 999999999", "worst 3", "worst 8")
	wrong11(t, "7;abac;9", "serve", "miss", "shares") // turns of tasks that are not told
	wrong11(t, "2,4,4;abad;2,1", "serve", "miss", "shares")
	wrong11(t, "7;.;9", "mean 0", "both 0 0", "wait 0 0", "worst 0")
}

// TestLinesOfGardens has the lines that change a garden, or put it out, but for those of TestLongRounds.
func TestLinesOfGardens(t *testing.T) {
	for _, c := range []case11{
		{new11, "garden 1", "1", "2,4,4;abac;1"}, {new11, "garden 20 1 20", "20 1 20", "2,4,4;abac;20,1,20"}, {"7;.;9", "garden 8 7 6 5 4 3 2 1", "8 7 6 5 4 3 2 1", "7;.;8,7,6,5,4,3,2,1"}, {new11, "garden 2 1", "2 1", ""}, {new11, "garden 20 20 20 20 20 20 20 20", "20 20 20 20 20 20 20 20", "2,4,4;abac;20,20,20,20,20,20,20,20"},
		{new11, "see", "2 1", ""}, {"40;.h;7", "see", "7", ""}, {"40;.h;1,20,1", "see", "1 20 1", ""}, {"7;.;8,7,6,5,4,3,2,1", "see", "8 7 6 5 4 3 2 1", ""},
		{new11, "rule", "aba", "2,4,4;aba;2,1"}, {"7;.;1,1", "rule", "ba", "7;ba;1,1"}, {"7;.;5", "rule", "a", "7;a;5"},
		{new11, "cut 3", "a.ab", "2,4,4;a.ab;2,1"}, {new11, "cut 4", "a.ab", "2,4,4;a.ab;2,1"}, {"7;h;1", "cut 2", ".a", "7;.a;1"}, {"7;h;1", "cut 1", "a", "7;a;1"}, {"7;h;20", "cut 1000", strings.Repeat(".", 49) + "a", "7;" + strings.Repeat(".", 49) + "a;20"},
		{"2,4,4;ab;2,1", "tower", "4", ""}, {"7;aab;2,1", "tower", "4", ""}, {"7;abb;2,1", "tower", "6", ""}, {"7;.a.;20", "tower", "60", ""}, {"7;" + strings.Repeat(".", 119) + "a;20", "tower", "2400", ""}, {"7;a;1", "tower", "1", ""},
		{new11, "lowest", "4", ""}, {"7;.;1", "lowest", "1", ""}, {"7;h;20", "lowest", "20", ""}, {"7;h;20,20", "lowest", "40", ""}, {"7;h;1,20", "lowest", "40", ""}, {"7;h;1,1", "lowest", "2", ""},
	} {
		check11(t, c)
	}
	wrong11(t, new11, "garden 0", "garden 21", "garden 2 0", "garden 0 2", "garden 2 21", "garden 1 1 1 1 1 1 1 1 1", "garden 999999999", "garden 256", "garden 257", "garden 2,1", "cut 0", "cut 1", "cut 2", "cut 1000", "cut 1001", "cut 999999999", "tower")
	wrong11(t, "2,4,4;abac;1,3,16,16", "rule") // its round ends behind MaxDays
	wrong11(t, "2,4,4;a;2,1", "tower")
	wrong11(t, "2,4,4;.;1", "tower")
	wrong11(t, "2,4,4;b;1", "tower")
	wrong11(t, "2,4,4;abac;1,1,1,20", "lowest")
}

// TestLongRounds has plays and rules with rounds of just MaxTurns slots, and of more.
func TestLongRounds(t *testing.T) {
	cases := []struct {
		desk, line string
		slots      int
		round      func(d impl.Desk) []int64
	}{
		{"6,40;abac;2,1", "play", 120, play11}, {"8,17;abac;2,1", "play", 119, play11}, {"21,3,11;abac;2,1", "play", 121, play11}, {"6,24,25;abac;2,1", "play", 2300, play11},
		{"2,4,4;abac;2,18,18,3,6", "rule", 120, cuts11(0)}, {"7;h;19,18,3,18,4", "rule", 119, cuts11(0)}, {"2,4,4;abac;13,7,1,14,7", "rule", 121, cuts11(0)}, {"2,4,4;abac;1,20,20,20", "rule", 180, cuts11(0)},
		{"2,4,4;abac;1", "cut 120", 120, cuts11(120)}, {"7;h;1", "cut 119", 119, cuts11(119)}, {"2,4,4;abac;1", "cut 121", 121, cuts11(121)}, {"2,4,4;abac;1", "cut 200", 200, cuts11(200)},
	}
	for _, c := range cases {
		d := desk11(c.desk)
		round := c.round(d)
		if len(round) != c.slots {
			t.Errorf("the round of %q on %s has %d slots, not %d", c.line, c.desk, len(round), c.slots)
		}
		if len(round) > 120 {
			wrong11(t, c.desk, c.line)
			continue
		}
		d.Turns = round
		after := text11(d)
		check11(t, case11{c.desk, c.line, strings.Split(after, ";")[1], after})
	}
	wrong11(t, "2,4,4;abac;1", "cut 201") // its round ends behind MaxDays
}

// play11 returns the round of the least play of the tasks of a desk, by striking out states.
func play11(d impl.Desk) []int64 {
	_, round := modelOf2(d.Tasks.Gaps).play()
	return round
}

// cuts11 returns the round of the rule of height for x of 0, and of the rule of speed with x for others, of the garden
// of a desk, by walking through days.
func cuts11(x int64) func(d impl.Desk) []int64 {
	return func(d impl.Desk) []int64 {
		days := daysOf6(d.Garden.Rates, x, 200)
		ahead, end := days.round6()
		return days.cuts[ahead:end]
	}
}

// line11 is a line of the list of the document: its command, what it has behind it (T for a TEXT, N for a number, + for
// one or more), which part of the desk it changes (* for all), and what is done, for these words of it. It returns the
// output, and whether a function returned another code than ErrNone, or something does not hold.
type line11 struct {
	word, form, part string
	run              func(d *impl.Desk, text string, n []int64) (string, bool)
}

// turns11 lays turns on a desk, if they are at most MaxTurns.
func turns11(d *impl.Desk, turns []int64, code int64) (string, bool) {
	if code != impl.ErrNone || len(turns) > 120 {
		return "", false
	}
	d.Turns = turns
	text, _ := impl.TurnsText(turns)
	return text, true
}

// tasks11 lays tasks on a desk.
func tasks11(d *impl.Desk, tasks impl.Tasks, code int64) (string, bool) {
	if code != impl.ErrNone {
		return "", false
	}
	d.Tasks = tasks
	text, _ := impl.TasksText(tasks)
	return text, true
}

// answer11 returns the output of results, and whether the code is ErrNone.
func answer11(code int64, format string, results ...any) (string, bool) {
	for at, result := range results {
		switch x := result.(type) {
		case bool:
			results[at] = map[bool]string{true: "yes", false: "no"}[x]
		case []int64:
			results[at] = list11(x, " ")
			if len(x) == 0 {
				results[at] = "none"
			}
		}
	}
	return fmt.Sprintf(format, results...), code == impl.ErrNone
}

// changing11 are the lines of the list that change something.
func changing11() []line11 {
	type words = []int64
	return []line11{
		{"tasks", "T", "T", func(d *impl.Desk, text string, _ words) (string, bool) {
			tasks, code := impl.ParseTasks(text)
			return tasks11(d, tasks, code)
		}},
		{"sort", "", "T", func(d *impl.Desk, _ string, _ words) (string, bool) {
			tasks, _, code := impl.SortTasks(d.Tasks)
			return tasks11(d, tasks, code)
		}},
		{"turns", "T", "U", func(d *impl.Desk, text string, _ words) (string, bool) {
			turns, code := impl.ParseTurns(text)
			return turns11(d, turns, code)
		}},
		{"shift", "N", "U", func(d *impl.Desk, _ string, n words) (string, bool) {
			turns, code := impl.ShiftTurns(d.Turns, n[0])
			return turns11(d, turns, code)
		}},
		{"reverse", "", "U", func(d *impl.Desk, _ string, _ words) (string, bool) {
			turns, code := impl.ReverseTurns(d.Turns)
			return turns11(d, turns, code)
		}},
		{"least", "", "U", func(d *impl.Desk, _ string, _ words) (string, bool) {
			turns, _, code := impl.LeastTurns(d.Turns)
			return turns11(d, turns, code)
		}},
		{"play", "", "U", func(d *impl.Desk, _ string, _ words) (string, bool) {
			_, round, code := impl.LeastPlay(d.Tasks)
			return turns11(d, round, code)
		}},
		{"share", "N+", "U", func(d *impl.Desk, _ string, n words) (string, bool) {
			turns, code := impl.TurnsFromShares(n)
			return turns11(d, turns, code)
		}},
		{"garden", "N+", "G", func(d *impl.Desk, _ string, n words) (string, bool) {
			if !impl.IsGarden(impl.Garden{Rates: n}) {
				return "", false
			}
			d.Garden.Rates = n
			return list11(n, " "), true
		}},
		{"rule", "", "U", func(d *impl.Desk, _ string, _ words) (string, bool) {
			turns, _, code := impl.TurnsByHeight(d.Garden)
			return turns11(d, turns, code)
		}},
		{"cut", "N", "U", func(d *impl.Desk, _ string, n words) (string, bool) {
			turns, _, code := impl.TurnsBySpeed(d.Garden, n[0])
			return turns11(d, turns, code)
		}},
		{"needs", "N", "T", func(d *impl.Desk, _ string, n words) (string, bool) {
			tasks, code := impl.TasksOfGarden(d.Garden, n[0])
			return tasks11(d, tasks, code)
		}},
		{"reset", "", "*", func(d *impl.Desk, _ string, _ words) (string, bool) {
			*d = desk11(new11)
			return "ok", true
		}},
	}
}

// answering11 are the lines of the list that change nothing.
func answering11() []line11 {
	type words = []int64
	type run = func(d *impl.Desk, text string, n []int64) (string, bool)
	// of gives the function parts of the desk, and the numbers.
	of := func(f func(t impl.Tasks, u []int64, g impl.Garden, n words) (string, bool)) run {
		return func(d *impl.Desk, _ string, n []int64) (string, bool) { return f(d.Tasks, d.Turns, d.Garden, n) }
	}
	number := func(f func(t impl.Tasks, u []int64, g impl.Garden, n words) (int64, int64)) run {
		return of(func(t impl.Tasks, u []int64, g impl.Garden, n words) (string, bool) {
			x, code := f(t, u, g, n)
			return answer11(code, "%d", x)
		})
	}
	two := func(format string, f func(t impl.Tasks, u []int64, n words) (int64, int64, int64)) run {
		return of(func(t impl.Tasks, u []int64, _ impl.Garden, n words) (string, bool) {
			x, y, code := f(t, u, n)
			return answer11(code, format, x, y)
		})
	}
	list := func(f func(t impl.Tasks, u []int64, n words) ([]int64, int64)) run {
		return of(func(t impl.Tasks, u []int64, _ impl.Garden, n words) (string, bool) {
			x, code := f(t, u, n)
			return answer11(code, "%v", x)
		})
	}
	yes := func(f func(t impl.Tasks, u []int64) (bool, int64)) run {
		return of(func(t impl.Tasks, u []int64, _ impl.Garden, _ words) (string, bool) {
			x, code := f(t, u)
			return answer11(code, "%v", x)
		})
	}
	return []line11{
		{"show", "", "", of(func(t impl.Tasks, _ []int64, _ impl.Garden, _ words) (string, bool) { return list11(t.Gaps, ","), true })},
		{"look", "", "", func(d *impl.Desk, _ string, _ words) (string, bool) { return strings.Split(text11(*d), ";")[1], true }},
		{"see", "", "", of(func(_ impl.Tasks, _ []int64, g impl.Garden, _ words) (string, bool) {
			return list11(g.Rates, " "), true
		})},
		{"density", "", "", two("%d/%d", func(t impl.Tasks, _ []int64, _ words) (int64, int64, int64) { return impl.DensityOf(t) })},
		{"serve", "", "", yes(impl.DoServe)},
		{"miss", "", "", two("%d %d", func(t impl.Tasks, u []int64, _ words) (int64, int64, int64) { return impl.FirstMiss(t, u) })},
		{"waits", "N", "", list(func(_ impl.Tasks, u []int64, n words) ([]int64, int64) { return impl.WaitsOf(u, n[0]) })},
		{"greatest", "", "", list(func(_ impl.Tasks, u []int64, _ words) ([]int64, int64) { return impl.GreatestWaits(u) })},
		{"shares", "", "", of(func(t impl.Tasks, u []int64, _ impl.Garden, _ words) (string, bool) {
			shares, none, code := impl.SharesOf(t, u)
			return answer11(code, "%v %d", shares, none)
		})},
		{"period", "", "", number(func(_ impl.Tasks, u []int64, _ impl.Garden, _ words) (int64, int64) { return impl.PeriodOf(u) })},
		{"can", "", "", yes(func(t impl.Tasks, _ []int64) (bool, int64) { return impl.CanServe(t) })},
		{"lasting", "", "", number(func(t impl.Tasks, _ []int64, _ impl.Garden, _ words) (int64, int64) { return impl.CountLasting(t) })},
		{"fewest", "", "", number(func(t impl.Tasks, _ []int64, _ impl.Garden, _ words) (int64, int64) { return impl.FewestSlots(t) })},
		{"gap", "N", "", number(func(t impl.Tasks, _ []int64, _ impl.Garden, n words) (int64, int64) { return impl.LeastGap(t, n[0]) })},
		{"keep", "N+", "", list(func(t impl.Tasks, _ []int64, n words) ([]int64, int64) { return impl.KeepingChoices(t, n) })},
		{"tower", "", "", number(func(_ impl.Tasks, u []int64, g impl.Garden, _ words) (int64, int64) { return impl.TowerOf(g, u) })},
		{"lowest", "", "", number(func(_ impl.Tasks, _ []int64, g impl.Garden, _ words) (int64, int64) { return impl.LeastTower(g) })},
		{"channels", "", "", number(func(t impl.Tasks, _ []int64, _ impl.Garden, _ words) (int64, int64) { return impl.FewestChannels(t) })},
		{"split", "N", "", list(func(t impl.Tasks, _ []int64, n words) ([]int64, int64) { return impl.FirstSplit(t, n[0]) })},
		{"mean", "N", "", two("%d/%d", func(_ impl.Tasks, u []int64, n words) (int64, int64, int64) { return impl.MeanWait(u, n[0]) })},
		{"both", "NN", "", two("%d/%d", func(_ impl.Tasks, u []int64, n words) (int64, int64, int64) { return impl.MeanForBoth(u, n[0], n[1]) })},
		{"wait", "NN", "", number(func(_ impl.Tasks, u []int64, _ impl.Garden, n words) (int64, int64) {
			return impl.WaitFrom(u, n[0], n[1])
		})},
		{"worst", "N", "", two("%d %d", func(_ impl.Tasks, u []int64, n words) (int64, int64, int64) { return impl.WorstSlot(u, n[0]) })},
	}
}

// all11 are all lines of the list.
func all11() []line11 {
	return append(changing11(), answering11()...)
}

// shapes11 are the lines that have words as a form tells, numbers that are none left out.
var shapes11 = map[string]*regexp.Regexp{
	"":   regexp.MustCompile("^$"),
	"T":  regexp.MustCompile("^ [^ ]*$"),
	"N":  regexp.MustCompile("^ (0|[1-9][0-9]{0,8})$"),
	"NN": regexp.MustCompile("^( (0|[1-9][0-9]{0,8})){2}$"),
	"N+": regexp.MustCompile("^( (0|[1-9][0-9]{0,8}))+$"),
}

// console11 is the console as the document tells it: it returns the desk behind a line, and its output.
func console11(d impl.Desk, line string) (impl.Desk, string) {
	for _, c := range all11() {
		rest, found := strings.CutPrefix(line, c.word)
		if !found || !shapes11[c.form].MatchString(rest) {
			continue
		}
		var numbers []int64
		if c.form != "T" && rest != "" {
			numbers = numbers11(strings.ReplaceAll(rest[1:], " ", ","))
		}
		after := copy11(d)
		if output, done := c.run(&after, strings.TrimPrefix(rest, " "), numbers); done {
			return after, output
		}
	}
	return d, "error"
}

// asModel11 runs a line, and fails the test if it does not do what the document tells. It returns the desk behind it.
func asModel11(t *testing.T, d impl.Desk, line string) (impl.Desk, string) {
	t.Helper()
	want, wanted := console11(d, line)
	after, output := run11(t, d, line)
	if output != wanted || text11(after) != text11(want) {
		t.Fatalf("%q on %s = %s, %q, not %s, %q", line, text11(d), text11(after), output, text11(want), wanted)
	}
	return after, output
}

// least11 returns a line with the command and as many words as it has to have at least, which can be done on the desk
// of TestWords11, but for a miss, of which there is none there.
func (c line11) least11() string {
	switch {
	case c.word == "tasks":
		return "tasks 3"
	case c.word == "turns":
		return "turns ab"
	case c.word == "both" || c.word == "wait":
		return c.word + " 0 0"
	case c.word == "garden" || c.word == "cut" || c.word == "share" || c.word == "split":
		return c.word + " 1"
	case c.word == "needs":
		return "needs 20"
	case c.word == "keep":
		return "keep 3"
	case c.form == "N":
		return c.word + " 0"
	}
	return c.word
}

// TestWords11 has each command with too few words, with as many as it can have, and with too many.
func TestWords11(t *testing.T) {
	const desk = "3;a.;20"
	if len(all11()) != 36 {
		t.Fatalf("%d lines", len(all11()))
	}
	for _, c := range all11() {
		line := c.least11()
		if _, output := asModel11(t, desk11(desk), line); (output == "error") != (c.word == "miss") {
			t.Errorf("%q on %s has the output %q", line, desk, output)
		}
		words := strings.Split(line, " ")
		for n := range words {
			wrong11(t, desk, strings.Join(words[:n], " "))
		}
		wrong11(t, desk, " "+line, "  "+line, line+" ", line+"  ", strings.Replace(line, " ", "  ", 1)+" ", " "+line+" ", line+" -", line+" x", line+" 01")
		if c.form != "" {
			wrong11(t, desk, c.word, c.word+" ", c.word+"  ", strings.Replace(line, " ", "  ", 1), strings.Replace(line, " ", "\t", 1), strings.Replace(line, " ", "\n", 1), strings.Replace(line, " ", "\u00a0", 1), strings.Replace(line, " ", "", 1))
		}
		if c.form != "N+" {
			wrong11(t, desk, line+" 0", line+" 1", line+" a", line+" 0 0", line+" "+line)
		}
		wrong11(t, desk, c.word+"s"+line[len(c.word):], strings.ToUpper(line), strings.ToUpper(line[:1])+line[1:], "x"+line, line[1:], c.word[:len(c.word)-1]+line[len(c.word):], c.word+"x"+line[len(c.word):], "\""+line+"\"", line+"\n", line+"\r", line+"\x00", "\x00"+line, "\ufeff"+line, line+";")
	}
	wrong11(t, desk, "", " ", "  ", "fly", "0", "1 2", "error", "ok", "none", "yes", "\n", "\t", "\x00", "\xff", "é", "help", "new", "desk", "serve yes", "lines", "T", "U", "G", "TEXT", "reset now", strings.Repeat(" ", 5000), strings.Repeat("x", 5000), strings.Repeat("reset ", 1000))
}

// TestManyWords has lists of one number and of many.
func TestManyWords(t *testing.T) {
	for n := 1; n <= 12; n++ {
		for _, word := range []string{"1", "3", "20", "15"} {
			for _, c := range all11() {
				if c.form == "N+" {
					asModel11(t, desk11("3,3,3;a.;20"), c.word+strings.Repeat(" "+word, n))
					asModel11(t, desk11("8,8,8,8;a.;20"), c.word+strings.Repeat(" "+word, n))
				}
			}
		}
	}
	wrong11(t, new11, "share"+strings.Repeat(" 1", 120), "garden"+strings.Repeat(" 1", 1000), "keep 2 4 4"+strings.Repeat(" 4", 1000))
}

// noNumbers11 are words that are no numbers.
func noNumbers11() []string {
	return []string{"", "00", "01", "02", "000000001", "0000000001", "+1", "+0", "-0", "-1", "-2", "--1", "1-", "1.", "1.0", ".5", "1,2", "1/2", "a", "1a", "a1", "x", "0x1", "0b1", "0o1", "1_0", "0_1", "1e0", "1\t", "\t1", "1\n", "1\r", "1\x00", "\x001", "\xff", "١", "１", "²", "N", "I", "none", "inf", "1'", "1000000000", "1000000001", "9999999999", "2147483648", "4294967296", "4294967297", "9223372036854775807", "9223372036854775808", "18446744073709551615", "18446744073709551616", "18446744073709551617", "-9223372036854775808", strings.Repeat("9", 100), "1" + strings.Repeat("0", 100), strings.Repeat("0", 100) + "1"}
}

// TestNumbers11 has each word that has to be a number as one that is none, and as numbers at the ends.
func TestNumbers11(t *testing.T) {
	desks := []impl.Desk{desk11(new11), desk11("3;a.;20"), desk11("1;a;1"), desk11("8,8,8;h;1,1,1")}
	for _, c := range all11() {
		if !strings.Contains(c.form, "N") {
			continue
		}
		for _, d := range desks {
			for _, word := range noNumbers11() {
				for _, other := range []string{"0", "1", "3", "20"} {
					lines := []string{c.word + " " + word, c.word + " " + word + " " + other, c.word + " " + other + " " + word, c.word + " " + word + " " + word, c.word + " " + other + " " + other + " " + word, c.word + " " + other + " " + word + " " + other}
					wrong11(t, text11(d), lines...)
				}
			}
			for _, word := range []string{"0", "1", "2", "3", "4", "7", "8", "9", "10", "19", "20", "21", "39", "40", "41", "100", "119", "120", "121", "255", "256", "257", "999", "1000", "1001", "65536", "123456789", "999999999", "100000000"} {
				for _, other := range []string{"", " 0", " 1", " 2"} {
					asModel11(t, d, c.word+" "+word+other)
					asModel11(t, d, c.word+other+" "+word)
				}
			}
		}
	}
}

// sampleLines11 are lines of all kinds, some of them wrong ones.
func sampleLines11() []string {
	lines := []string{"tasks 5,2,3", "tasks 2,2", "tasks 40,40,40", "tasks 1,2,2", "tasks 6,40", "tasks ", "turns .b.a", "turns abcdefgh", "turns " + strings.Repeat("ab", 60), "turns ", "shift 3", "share 3 1 2", "share 1 1 1 1 1 1 1 1", "garden 3", "garden 1 1", "garden 1 3 16 16", "garden 20 1", "cut 3", "cut 5", "cut 120", "needs 2", "needs 6", "needs 20", "waits 1", "waits 2", "gap 1", "keep 2 4 4", "keep 2 2", "split 2", "mean 1", "both 1 0", "wait 1 2", "worst 1", "fly", " ", "show ", "mean 01", "Reset"}
	for _, c := range all11() {
		lines = append(lines, c.least11())
	}
	return lines
}

// TestLinesBehindLines has each line behind each other one, and reset behind both.
func TestLinesBehindLines(t *testing.T) {
	lines := sampleLines11()
	changed, errors := 0, 0
	for _, first := range lines {
		d, _ := asModel11(t, impl.NewDesk(), first)
		for _, second := range lines {
			behind, output := asModel11(t, d, second)
			if text11(behind) != text11(d) {
				changed++
			}
			if output == "error" {
				errors++
			}
			if first == "reset" || second == "reset" {
				continue
			}
			if again, output := asModel11(t, behind, "reset"); text11(again) != new11 || output != "ok" {
				t.Errorf("reset behind %q and %q leads to %s, %q", first, second, text11(again), output)
			}
		}
	}
	if changed < 1000 || errors < 1000 {
		t.Errorf("only %d lines that change the desk, and %d with the output error", changed, errors)
	}
}

// TestPartsOfDesks: a command that changes one part of the desk leaves the others, and one that changes none leaves all.
func TestPartsOfDesks(t *testing.T) {
	desks := []string{new11, "5,2,3;.h;20,1", "3;a.;1", "2,2;cba;3,2,1", "4,40;bbba;7,7", "40;caba;1,3,16,16"}
	changes := map[string]int{}
	for _, desk := range desks {
		for _, line := range sampleLines11() {
			after, _ := asModel11(t, desk11(desk), line)
			was, is := strings.Split(desk, ";"), strings.Split(text11(after), ";")
			part := ""
			for _, c := range changing11() {
				if word, _, _ := strings.Cut(line, " "); word == c.word {
					part = c.part
				}
			}
			for at, name := range []string{"T", "U", "G"} {
				if was[at] != is[at] {
					changes[name]++
				}
				if was[at] != is[at] && part != name && part != "*" {
					t.Errorf("%q on %s changes the part %s: %s", line, desk, name, text11(after))
				}
			}
		}
	}
	if changes["T"] < 20 || changes["U"] < 40 || changes["G"] < 15 {
		t.Errorf("only these changes: %v", changes)
	}
}

// words11 returns n numbers in 0..most, each with a blank ahead.
func words11(numbers *rand.Rand, n, most int) string {
	var text strings.Builder
	for range n {
		text.WriteString(" " + strconv.Itoa(numbers.Intn(most+1)))
	}
	return text.String()
}

// gaps11 returns the text of one to four tasks.
func gaps11(numbers *rand.Rand) string {
	most := []int{3, 6, 14, 40}[numbers.Intn(4)]
	var words []string
	for range 1 + numbers.Intn(4) {
		words = append(words, strconv.Itoa(1+numbers.Intn(most)))
	}
	return strings.Join(words, ",")
}

// someLine11 returns a line of the list, or one with a fault.
func someLine11(numbers *rand.Rand) string {
	all := all11()
	c := all[numbers.Intn(len(all))]
	if numbers.Intn(3) == 0 {
		c = changing11()[numbers.Intn(13)]
	}
	if c.word == "reset" && numbers.Intn(4) > 0 {
		return "show"
	}
	line := c.word
	most := map[string]int{"cut": 60, "needs": 60, "share": 9, "garden": 7, "gap": 3, "split": 4, "keep": 6, "shift": 9}[c.word]
	if most == 0 {
		most = 3
	}
	switch c.form {
	case "T":
		line += " " + gaps11(numbers)
		if c.word == "turns" {
			line = c.word + " "
			for range 1 + numbers.Intn(9) {
				line += []string{"a", "b", "c", ".", "d"}[numbers.Intn(5)]
			}
		}
	case "N+":
		line += words11(numbers, 1+numbers.Intn(4), most)
	default:
		line += words11(numbers, len(c.form), most)
	}
	if numbers.Intn(12) == 0 {
		faults := []string{line + " ", " " + line, line + " 1", strings.ToUpper(line), c.word, line + "x", strings.ReplaceAll(line, " ", "  "), "fly", line + "\r"}
		line = faults[numbers.Intn(len(faults))]
	}
	return line
}

// TestPromise11: lines lead from desks to desks, and the console joins their outputs.
func TestPromise11(t *testing.T) {
	numbers := rand.New(rand.NewSource(11))
	kinds, done := map[string]int{}, map[string]int{}
	for range 500 {
		text, outputs := "", ""
		d := impl.NewDesk()
		for range 1 + numbers.Intn(40) {
			line := someLine11(numbers)
			behind, output := asModel11(t, d, line)
			if !impl.IsDesk(behind) {
				t.Fatalf("%q on %s leads to no desk", line, text11(d))
			}
			d = behind
			text, outputs = text+line+"\n", outputs+output+"\n"
			kinds[output]++
			if output != "error" {
				done[strings.Split(line, " ")[0]]++
			}
		}
		if numbers.Intn(2) == 0 {
			text = text[:len(text)-1]
		}
		checkText11(t, text, outputs, text11(d))
	}
	if kinds["error"] < 1000 || kinds["yes"] < 50 || kinds["no"] < 50 || kinds["none"] < 20 {
		t.Errorf("only these outputs: %d errors, %d yes, %d no, %d none", kinds["error"], kinds["yes"], kinds["no"], kinds["none"])
	}
	for _, c := range all11() {
		if done[c.word] < 15 {
			t.Errorf("only %d lines with %s that are done", done[c.word], c.word)
		}
	}
}

// checkText11 fails the test if a text has not these outputs, or does not lead to this desk.
func checkText11(t *testing.T, text, outputs, desk string) {
	t.Helper()
	if got := impl.Console(text); got != outputs {
		t.Errorf("Console(%q) = %q, not %q", text, got, outputs)
	}
	d, ok := impl.DeskAfter(text)
	if !ok || text11(d) != desk {
		t.Errorf("DeskAfter(%q) = %v, %v, not %s", text, d, ok, desk)
	}
	// What is written over it must not come again.
	if !apart11(d) {
		t.Errorf("lists of DeskAfter(%q) share memory", text)
	}
	if d, ok := impl.DeskAfter(text); !ok || text11(d) != desk {
		t.Errorf("DeskAfter(%q) = %v, %v on its second call, not %s", text, d, ok, desk)
	}
}

// refused11 fails the test if a text is not refused because of its limits.
func refused11(t *testing.T, text string) {
	t.Helper()
	if got := impl.Console(text); got != "" {
		t.Errorf("Console of %d bytes, %d newlines = %q", len(text), strings.Count(text, "\n"), got)
	}
	if d, ok := impl.DeskAfter(text); ok || !isZero11(d) {
		t.Errorf("DeskAfter of %d bytes, %d newlines = %v, %v", len(text), strings.Count(text, "\n"), d, ok)
	}
}

// TestConsole has texts with and without newlines at their ends, with empty lines, and with bytes that are no letters.
func TestConsole(t *testing.T) {
	cases := []struct{ text, outputs, desk string }{
		{"", "", new11}, {"\n", "", new11}, {"\n\n", "", new11}, {"\n\n\n", "", new11}, {" ", "error\n", new11}, {" \n", "error\n", new11}, {"\n ", "error\n", new11}, {" \n ", "error\nerror\n", new11},
		{"show", "2,4,4\n", new11}, {"show\n", "2,4,4\n", new11}, {"show\n\n", "2,4,4\n", new11}, {"\nshow", "2,4,4\n", new11}, {"\n\nshow\n\n", "2,4,4\n", new11},
		{"show\nlook", "2,4,4\nabac\n", new11}, {"show\nlook\n", "2,4,4\nabac\n", new11}, {"show\n\n\nlook", "2,4,4\nabac\n", new11}, {"show\n \nlook", "2,4,4\nerror\nabac\n", new11}, {"show\n\nlook\n\n\nsee\n\n", "2,4,4\nabac\n2 1\n", new11},
		{"turns ab", "ab\n", "2,4,4;ab;2,1"}, {"turns ab\n", "ab\n", "2,4,4;ab;2,1"}, {"turns ab\ntasks 3\ngarden 7\n", "ab\n3\n7\n", "3;ab;7"}, {"turns ab\nlook\nreset\nlook", "ab\nab\nok\nabac\n", new11}, {"turns ab\nreset\ntasks 3", "ab\nok\n3\n", "3;abac;2,1"},
		{"turns ab\nfly\nlook", "ab\nerror\nab\n", "2,4,4;ab;2,1"}, {"fly\nturns ab", "error\nab\n", "2,4,4;ab;2,1"}, {"turns ab\nturns x\nturns \nshift 9", "ab\nerror\nerror\nerror\n", "2,4,4;ab;2,1"}, {"shift 1\nshift 1\nshift 1", "baca\nacab\ncaba\n", "2,4,4;caba;2,1"},
		{"show\r\nlook\r\n", "error\nerror\n", new11}, {"show\rlook", "error\n", new11}, {"show\n\rlook", "2,4,4\nerror\n", new11}, {"show\n\r\nlook", "2,4,4\nerror\nabac\n", new11}, {"show;look", "error\n", new11}, {"show\vlook\flook\x85look\u2028look", "error\n", new11}, {"\x00\n\xff\n\t\né\nshow\x00\nlook\n\x00look\n\ufeffsee", "error\nerror\nerror\nerror\nerror\nabac\nerror\nerror\n", new11},
		{"tasks 2,2\nserve\nplay\nserve\nmiss\ntasks 3,2\nmiss\nsort\nshow\nneeds 4\ngarden 1 1 1\nneeds 4\nfewest", "2,2\nerror\nba\nyes\nerror\n3,2\nerror\n2,3\n2,3\n2,4\n1 1 1\n4,4,4\n3\n", "4,4,4;ba;1,1,1"},
	}
	for _, c := range cases {
		checkText11(t, c.text, c.outputs, c.desk)
	}
}

// TestConsoleLimits has texts of just so many bytes and lines as there may be, and of one more.
func TestConsoleLimits(t *testing.T) {
	for n := 1; n <= 45; n++ {
		texts := map[string]string{
			strings.Repeat("show\n", n):                                strings.Repeat("2,4,4\n", n),
			strings.Repeat("show\n", n-1) + "show":                     strings.Repeat("2,4,4\n", n),
			strings.Repeat("\n", n):                                    "",
			strings.Repeat("\n", n-1) + "show":                         "2,4,4\n",
			strings.Repeat("\n", n-1) + "show\n":                       "2,4,4\n",
			"show" + strings.Repeat("\n", n):                           "2,4,4\n",
			strings.Repeat(" \n", n):                                   strings.Repeat("error\n", n),
			strings.Repeat("\n", n/2) + strings.Repeat("see\n", n-n/2): strings.Repeat("2 1\n", n-n/2),
			strings.Repeat("see\n", n/2) + strings.Repeat("\n", n-n/2): strings.Repeat("2 1\n", n/2),
		}
		for text, outputs := range texts {
			if n <= 40 {
				checkText11(t, text, outputs, new11)
			} else {
				refused11(t, text)
			}
		}
	}
	for _, more := range []string{"x", "\n", " ", "\x00", "é", "turns ab\n", strings.Repeat("x", 5000)} {
		for _, line := range []string{strings.Repeat("x", 99), strings.Repeat(" ", 99), strings.Repeat("\xff", 99), strings.Repeat("é", 49) + "x"} {
			full := strings.Repeat(line+"\n", 40)
			checkText11(t, full, strings.Repeat("error\n", 40), new11)
			checkText11(t, full[:3999], strings.Repeat("error\n", 40), new11)
			checkText11(t, full[:3900], strings.Repeat("error\n", 39), new11)
			refused11(t, full+more)
			refused11(t, more+full)
		}
		one := strings.Repeat("x", 4000)
		refused11(t, one+more)
		refused11(t, more+one)
		checkText11(t, one, "error\n", new11)
		ab := "turns ab\n"
		checkText11(t, ab+one[len(ab):], "ab\nerror\n", "2,4,4;ab;2,1")
		checkText11(t, one[len(ab):]+"\n"+ab[:len(ab)-1], "error\nab\n", "2,4,4;ab;2,1")
		refused11(t, ab+one[len(ab)-1:])
		refused11(t, one[len(ab)-1:]+"\n"+ab[:len(ab)-1])
	}
	refused11(t, strings.Repeat("\n", 4000))
	refused11(t, strings.Repeat("\n", 4001))
	refused11(t, strings.Repeat("show\n", 800))
	refused11(t, strings.Repeat("é", 2001))
	refused11(t, strings.Repeat("show\n", 100000))
	checkText11(t, strings.Repeat("é", 2000), "error\n", new11)
}

// TestNoStateStays11: a line has the same output on the same desk, whatever has been run before.
func TestNoStateStays11(t *testing.T) {
	for range 2 {
		for _, line := range sampleLines11() {
			text := "tasks 3,3\nturns ab.\ngarden 5\n" + line
			wantDesk, want := console11(desk11("3,3;ab.;5"), line)
			checkText11(t, text, "3,3\nab.\n5\n"+want+"\n", text11(wantDesk))
		}
	}
}
