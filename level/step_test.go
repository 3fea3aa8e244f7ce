package level_test

import (
	"math/rand"
	"slices"
	"strconv"
	"testing"

	"dedup/api"
	"dedup/level"
	"dedup/run"
)

// loaded is levels with these runs in each level, the newest first.
func loaded(t *testing.T, c api.Tiers, levels ...[][]api.Entry) *level.Levels {
	t.Helper()
	var counts []int
	var files [][]byte
	for _, runs := range levels {
		counts = append(counts, len(runs))
		for _, entries := range runs {
			files = append(files, mustBuild(t, c.Block, entries...))
		}
	}
	return mustLoad(t, c, framed(77, manifestBody(c, counts, files)), files)
}

// listsOf is the entries of all runs, in order.
func listsOf(t *testing.T, l *level.Levels) [][]api.Entry {
	t.Helper()
	var lists [][]api.Entry
	for _, file := range l.Files() {
		r, e := run.Open(file)
		if e != api.OK {
			t.Fatal("a file that is no run", e)
		}
		lists = append(lists, slices.Collect(r.Scan("", "")))
	}
	return lists
}

// wantLists holds the entries of all runs, in order.
func wantLists(t *testing.T, what string, l *level.Levels, want ...[]api.Entry) {
	t.Helper()
	if got := listsOf(t, l); !slices.EqualFunc(got, want, slices.Equal) {
		t.Errorf("%s: %v, want %v", what, got, want)
	}
}

// is is an entry with a value, gone one without.
func is(key, value string) api.Entry { return api.Entry{Key: key, Value: value} }
func gone(key string) api.Entry      { return api.Entry{Key: key, Gone: true} }

// TestStepGone: P14.2: those that are gone are kept just if a level behind has a run, be it the next one or a later one.
func TestStepGone(t *testing.T) {
	newer := []api.Entry{is("a", "2"), gone("b"), gone("d")}
	older := []api.Entry{is("a", "1"), is("b", "1"), is("c", "1")}
	far := []api.Entry{is("b", "0"), is("d", "0")}
	l := loaded(t, small(2, 9), [][]api.Entry{newer, older})
	if !l.Step() {
		t.Error("Step")
	}
	wantRuns(t, "nothing behind", l, 0, 1)
	wantLists(t, "nothing behind", l, []api.Entry{is("a", "2"), is("c", "1")})
	kept := []api.Entry{is("a", "2"), gone("b"), is("c", "1"), gone("d")}
	for behind := 1; behind < 16; behind++ {
		levels := make([][][]api.Entry, behind+1)
		levels[0] = [][]api.Entry{newer, older}
		levels[behind] = [][]api.Entry{far}
		l := loaded(t, small(2, 9), levels...)
		if !l.Step() {
			t.Error("Step")
		}
		wantLists(t, "a level behind has a run", l, kept, far)
		wantTruth(t, "a level behind has a run", l, map[string]string{"a": "2", "c": "1"})
		want := make([]int, behind+1)
		want[1]++
		want[behind]++
		wantRuns(t, "a level behind has a run", l, want...)
	}
}

// TestStepNothingLeft: P14.2: if nothing is left there is no run; both levels have what they have without it.
func TestStepNothingLeft(t *testing.T) {
	l := loaded(t, small(2, 9), [][]api.Entry{{gone("a")}, {is("a", "1")}})
	if !l.Step() {
		t.Error("Step")
	}
	wantRuns(t, "nothing left", l)
	if l.Step() || len(l.Files()) != 0 {
		t.Error("something is left")
	}
	empty := loaded(t, small(2, 9), [][]api.Entry{nil, nil}, [][]api.Entry{{is("a", "1")}})
	if !empty.Step() {
		t.Error("Step of runs without entries")
	}
	wantRuns(t, "runs without entries", empty, 0, 1)
}

// TestStepLowest: P14.2: of the levels that have Fan runs or more the lowest; all its runs; the merged one is the first of the next level.
func TestStepLowest(t *testing.T) {
	one := func(key, value string) []api.Entry { return []api.Entry{is(key, value)} }
	l := loaded(t, small(3, 9),
		[][]api.Entry{one("a", "9"), one("b", "8")},
		[][]api.Entry{one("a", "7"), one("c", "6"), one("a", "5"), one("c", "4")},
		[][]api.Entry{one("d", "3"), one("e", "2"), one("a", "1")})
	if !l.Step() {
		t.Error("Step")
	}
	wantRuns(t, "the second one", l, 2, 0, 4)
	wantLists(t, "the second one", l, one("a", "9"), one("b", "8"), []api.Entry{is("a", "7"), is("c", "6")}, one("d", "3"), one("e", "2"), one("a", "1"))
	mustPut(t, l, "x", "10")
	l.Flush()
	if !l.Step() {
		t.Error("Step")
	}
	wantRuns(t, "the first one", l, 0, 1, 4)
	if !l.Step() || l.Step() {
		t.Error("Step")
	}
	wantRuns(t, "the third one", l, 0, 1, 0, 1)
	wantLists(t, "the third one", l, []api.Entry{is("a", "9"), is("b", "8"), is("x", "10")}, []api.Entry{is("a", "7"), is("c", "6"), is("d", "3"), is("e", "2")})
}

// TestStepFewer: P14.2: a level with fewer than Fan runs has nothing to do; what is in memory does not count, and stays there.
func TestStepFewer(t *testing.T) {
	for fan := 2; fan <= 16; fan++ {
		l := mustNew(t, small(fan, 2))
		for i := range 2*fan - 1 {
			if l.Step() {
				t.Fatal("Step with", l.Runs(), "of", fan)
			}
			mustPut(t, l, strconv.Itoa(i), "v")
		}
		wantRuns(t, "one fewer than Fan", l, fan-1)
		l.Flush()
		mustPut(t, l, "in memory", "v")
		if !l.Step() || !l.Flush() {
			t.Error("Step with", l.Runs(), "of", fan)
		}
		wantRuns(t, "behind it", l, 1, 1)
	}
}

// TestLastLevel: P14.2: the last level keeps its run for itself, in the place of all; those that are gone are left out.
func TestLastLevel(t *testing.T) {
	levels := make([][][]api.Entry, 16)
	levels[15] = [][]api.Entry{{is("a", "3"), gone("b")}, {is("b", "2"), is("c", "2")}, {is("a", "1")}}
	l := loaded(t, small(3, 9), levels...)
	mustPut(t, l, "c", "9")
	if !l.Step() || l.Step() {
		t.Error("Step")
	}
	wantRuns(t, "the last level", l, 0, 0, 0, 0, 0, 0, 0, 0, 0, 0, 0, 0, 0, 0, 0, 1)
	wantLists(t, "the last level", l, []api.Entry{is("a", "3"), is("c", "2")})
	wantTruth(t, "the last level", l, map[string]string{"a": "3", "c": "9"})
	levels[15] = [][]api.Entry{{gone("a")}, {is("a", "1")}}
	l = loaded(t, small(2, 9), levels...)
	if !l.Step() || l.Step() {
		t.Error("Step")
	}
	wantRuns(t, "nothing is left", l)
	levels[14] = [][]api.Entry{{gone("a")}, {gone("b"), is("c", "5")}}
	levels[15] = [][]api.Entry{{is("a", "1"), is("b", "1")}}
	l = loaded(t, small(2, 9), levels...)
	if !l.Step() {
		t.Error("Step")
	}
	wantLists(t, "the last but one", l, []api.Entry{gone("a"), gone("b"), is("c", "5")}, levels[15][0])
	if !l.Step() || l.Step() {
		t.Error("Step")
	}
	wantLists(t, "the last one", l, []api.Entry{is("c", "5")})
}

// TestStepsEnd: P14.6: steps come to one that has nothing to do, soon enough; then each level but the last has fewer than Fan runs; P14.5: nothing is seen of them.
func TestStepsEnd(t *testing.T) {
	r := rand.New(rand.NewSource(146))
	for range 40 {
		c := someTiers(r)
		levels := make([][][]api.Entry, 1+r.Intn(16))
		total := 0
		for n := range levels {
			for range r.Intn(8) {
				levels[n] = append(levels[n], []api.Entry{is(someKey(r), strconv.Itoa(total))})
				total++
			}
		}
		levels[len(levels)-1] = append(levels[len(levels)-1], []api.Entry{is("z", "z")})
		total++
		l := loaded(t, c, levels...)
		truth := map[string]string{}
		for _, x := range told(l, "", "") {
			truth[x.Key] = x.Value
		}
		steps := 0
		for l.Step() {
			steps++
			wantTruth(t, "behind a step", l, truth)
		}
		if steps > 16*total {
			t.Error(steps, "steps of", total, "runs")
		}
		for n, count := range l.Runs() {
			if n < 15 && count >= c.Fan {
				t.Error("level", n, "has", count, "runs")
			}
		}
	}
}

// TestManyLevels: P14.2, P14.6, P14.7: a run a change, compacted all the time, up to the sixteenth level and beyond.
func TestManyLevels(t *testing.T) {
	c := small(2, 1)
	l := mustNew(t, c)
	truth := map[string]string{}
	for i := range 1 << 17 {
		key := strconv.Itoa(i % 7)
		if i%11 == 0 {
			mustDelete(t, l, key)
			delete(truth, key)
		} else {
			mustPut(t, l, key, strconv.Itoa(i))
			truth[key] = strconv.Itoa(i)
		}
		for l.Step() {
		}
		if i%9999 == 0 {
			wantTruth(t, "many", l, truth)
		}
	}
	wantTruth(t, "many", l, truth)
	wantRuns(t, "many", l, 0, 0, 0, 0, 0, 0, 0, 0, 0, 0, 0, 0, 0, 0, 0, 1)
}
