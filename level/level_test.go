package level_test

import (
	"math"
	"math/rand"
	"slices"
	"strconv"
	"testing"

	"dedup/api"
	"dedup/level"
)

// tiers is Block, Fan and Top.
func tiers(n [3]int) api.Tiers {
	return api.Tiers{Block: n[0], Fan: n[1], Top: n[2]}
}

// small is numbers of which little is enough.
func small(fan, top int) api.Tiers {
	return api.Tiers{Block: 256, Fan: fan, Top: top}
}

// TestNew: P14.1: which numbers may be, and that nothing is there.
func TestNew(t *testing.T) {
	for _, n := range [][3]int{{256, 2, 1}, {4096, 16, 4096}, {257, 3, 2}, {4095, 15, 4095}} {
		c := tiers(n)
		l := mustNew(t, c)
		wantSame(t, "a new one", l, newPlain(c))
		if l.Flush() || l.Step() || len(l.Files()) != 0 {
			t.Error("something is there", c)
		}
	}
	for _, n := range [][3]int{
		{}, {255, 2, 1}, {4097, 2, 1}, {0, 2, 1}, {-256, 2, 1}, {math.MaxInt, 2, 1}, {math.MinInt, 2, 1},
		{256, 1, 1}, {256, 17, 1}, {256, 0, 1}, {256, -2, 1}, {256, math.MaxInt, 1}, {256, math.MinInt, 1},
		{256, 2, 0}, {256, 2, 4097}, {256, 2, -1}, {256, 2, math.MaxInt}, {256, 2, math.MinInt},
	} {
		c := tiers(n)
		if l, e := level.New(c); e != api.ErrLevels || l != nil {
			t.Error("New", c, e)
		}
		if l, e := level.Load(c, []byte("no manifest"), [][]byte{nil}); e != api.ErrLevels || l != nil {
			t.Error("Load", c, e)
		}
		if l, e := level.Rebuild(c, []api.Entry{{}}); e != api.ErrLevels || l != nil {
			t.Error("Rebuild", c, e)
		}
	}
}

// TestExample: the chapter's example.
func TestExample(t *testing.T) {
	l := mustNew(t, small(2, 2))
	mustPut(t, l, "a", "1", "b", "2", "a", "3")
	mustDelete(t, l, "b")
	wantRuns(t, "two runs", l, 2)
	if !l.Step() {
		t.Error("Step")
	}
	wantRuns(t, "behind a step", l, 0, 1)
	wantTruth(t, "behind a step", l, map[string]string{"a": "3"})
	if v, is := l.Get("b"); is || v != "" {
		t.Error("Get(b)", v, is)
	}
	if l.Step() {
		t.Error("a second step")
	}
}

// TestRefused: P14.1: entries that may not be are refused, and nothing has changed; the longest ones may be.
func TestRefused(t *testing.T) {
	l, p := mustNew(t, small(2, 3)), newPlain(small(2, 3))
	mustPut(t, l, "a", "1", "b", "2")
	p.put("a", "1")
	p.put("b", "2")
	for _, key := range []string{"", long(65), long(70000)} {
		if e := l.Put(key, "v"); e != api.ErrItem {
			t.Error("Put", len(key), e)
		}
		if e := l.Delete(key); e != api.ErrItem {
			t.Error("Delete", len(key), e)
		}
		if v, is := l.Get(key); is || v != "" {
			t.Error("Get", len(key), v)
		}
		wantSame(t, "refused", l, p)
	}
	for _, n := range []int{65, 1000} {
		if e := l.Put("c", long(n)); e != api.ErrItem {
			t.Error("Put of a long value", n, e)
		}
		wantSame(t, "refused", l, p)
	}
	mustPut(t, l, long(64), long(64))
	p.put(long(64), long(64))
	wantSame(t, "the longest", l, p)
	wantRuns(t, "the longest", l, 1)
}

// TestTop: P14.1: at Top entries they are laid down: other keys count, the same one does not; those that are gone do.
func TestTop(t *testing.T) {
	for _, top := range []int{1, 2, 5, 4096} {
		l := mustNew(t, small(16, top))
		for i := range top - 1 {
			mustPut(t, l, strconv.Itoa(i), "v")
			mustPut(t, l, "0", "w")
		}
		wantRuns(t, "one fewer than Top", l)
		mustDelete(t, l, "last")
		wantRuns(t, "Top", l, 1)
		if l.Flush() {
			t.Error("something is in memory")
		}
	}
}

// TestFlush: P14.2: what is in memory is a run, also if all of it is gone; then nothing is in memory.
func TestFlush(t *testing.T) {
	l, p := mustNew(t, small(2, 9)), newPlain(small(2, 9))
	if l.Flush() {
		t.Error("Flush of nothing")
	}
	mustDelete(t, l, "never there")
	p.delete("never there")
	if !l.Flush() || !p.flush() || l.Flush() {
		t.Error("Flush")
	}
	wantSame(t, "one that is gone", l, p)
	wantRuns(t, "one that is gone", l, 1)
}

// TestNewest: P14.1: the newest entry of a key counts: in memory, then level 0 the newest first, then the levels behind.
func TestNewest(t *testing.T) {
	l := mustNew(t, small(2, 9))
	truth := map[string]string{}
	for i := range 20 {
		key, value := strconv.Itoa(i%3), strconv.Itoa(i)
		mustPut(t, l, key, value)
		truth[key] = value
		wantTruth(t, "in memory", l, truth)
		l.Flush()
		wantTruth(t, "laid down", l, truth)
		if i%5 == 4 {
			mustDelete(t, l, key)
			delete(truth, key)
			wantTruth(t, "gone", l, truth)
			l.Flush()
			if v, is := l.Get(key); is || v != "" {
				t.Error("Get of one that is gone", v)
			}
		}
		if i%4 == 3 {
			l.Step()
			wantTruth(t, "behind a step", l, truth)
		}
	}
}

// TestEmptyValue: P14.1: a value without bytes is a value.
func TestEmptyValue(t *testing.T) {
	l := mustNew(t, small(2, 1))
	mustPut(t, l, "a", "")
	if v, is := l.Get("a"); !is || v != "" {
		t.Error("Get", v, is)
	}
	mustDelete(t, l, "a")
	if _, is := l.Get("a"); is {
		t.Error("it is gone")
	}
}

// TestScanRange: P14.1: from from on and below to; to empty: all; nothing between ends that meet or cross.
func TestScanRange(t *testing.T) {
	l := mustNew(t, small(4, 2))
	truth := map[string]string{}
	for _, key := range []string{"b", "d", "bb", "\x00", "\xff", "c", "ba"} {
		mustPut(t, l, key, key+"!")
		truth[key] = key + "!"
	}
	mustDelete(t, l, "c")
	delete(truth, "c")
	ends := []string{"", "\x00", "\x00\x00", "a", "b", "b\x00", "ba", "bb", "c", "d", "e", "\xff", "\xff\xff", long(100)}
	for _, from := range ends {
		for _, to := range ends {
			if got, want := told(l, from, to), inTruth(truth, from, to); !slices.Equal(got, want) {
				t.Errorf("Scan(%q, %q): %v, want %v", from, to, got, want)
			}
		}
	}
}

// TestScanWhile: P14.1, R5: a scan is as the levels are when it is ranged over; what is done meanwhile is not seen; it may be stopped, and begins anew.
func TestScanWhile(t *testing.T) {
	l := mustNew(t, small(2, 2))
	scan := l.Scan("", "")
	truth := map[string]string{"a": "1", "b": "2", "c": "3"}
	mustPut(t, l, "a", "1", "b", "2", "c", "3")
	for range scan {
		break
	}
	var got []api.Pair
	for k, v := range scan {
		got = append(got, api.Pair{Key: k, Value: v})
		mustDelete(t, l, "c")
		mustPut(t, l, "b", "9", "d", "4")
		l.Flush()
		l.Step()
	}
	if !slices.Equal(got, inTruth(truth, "", "")) {
		t.Error("a scan while it changes", got)
	}
	got = nil
	for k, v := range scan {
		got = append(got, api.Pair{Key: k, Value: v})
	}
	if !slices.Equal(got, []api.Pair{{Key: "a", Value: "1"}, {Key: "b", Value: "9"}, {Key: "d", Value: "4"}}) {
		t.Error("a scan anew", got)
	}
	if !slices.Equal(told(l, "", ""), got) {
		t.Error("another scan")
	}
}

// TestFork: P14.4: a fork is the same; what is done to one is not done to the other.
func TestFork(t *testing.T) {
	l, p := mustNew(t, small(2, 3)), newPlain(small(2, 3))
	for _, key := range []string{"a", "b", "c", "d", "e", "f", "g", "h"} {
		mustPut(t, l, key, "1")
		p.put(key, "1")
	}
	other, q := l.Fork(), p.fork()
	wantSame(t, "a fork", other, q)
	mustPut(t, l, "i", "2", "j", "2")
	p.put("i", "2")
	p.put("j", "2")
	mustDelete(t, other, "a", "b", "h")
	q.delete("a")
	q.delete("b")
	q.delete("h")
	wantSame(t, "the first one", l, p)
	wantSame(t, "the other one", other, q)
	if !other.Step() || !q.step() || !other.Flush() || !q.flush() {
		t.Error("Step and Flush")
	}
	wantSame(t, "the first one behind a step of the other", l, p)
	wantSame(t, "the other one behind its step", other, q)
}

// TestNone: P14.4, R1: of Levels that nobody gave.
func TestNone(t *testing.T) {
	for _, l := range []*level.Levels{nil, {}} {
		if l.Put("a", "1") != api.ErrClosed || l.Put("", "") != api.ErrClosed || l.Delete("a") != api.ErrClosed || l.Delete("") != api.ErrClosed {
			t.Error("Put, Delete")
		}
		if v, is := l.Get("a"); is || v != "" {
			t.Error("Get", v)
		}
		if len(told(l, "", "")) != 0 || l.Flush() || l.Step() || len(l.Runs()) != 0 || len(l.Manifest()) != 0 || len(l.Files()) != 0 || l.Fork() != nil {
			t.Error("of one that nobody gave")
		}
	}
}

// TestRebuild: P14.3: one run of level 0 with the last one of each key; those that are gone are left out; nothing is in memory, however many there are.
func TestRebuild(t *testing.T) {
	r := rand.New(rand.NewSource(143))
	for n := range 300 {
		c := someTiers(r)
		var entries []api.Entry
		truth := map[string]string{}
		for range r.Intn(n + 1) {
			x := api.Entry{Key: someKey(r), Gone: r.Intn(3) == 0}
			if x.Gone {
				delete(truth, x.Key)
			} else {
				x.Value = long(r.Intn(65))
				truth[x.Key] = x.Value
			}
			entries = append(entries, x)
		}
		was := slices.Clone(entries)
		l, e := level.Rebuild(c, entries)
		if e != api.OK || !slices.Equal(entries, was) {
			t.Fatal("Rebuild", e)
		}
		p := newPlain(c)
		p.truth = truth
		var list []api.Entry
		for _, x := range inTruth(truth, "", "") {
			list = append(list, api.Entry{Key: x.Key, Value: x.Value})
		}
		if len(list) > 0 {
			p.levels[0] = [][]api.Entry{list}
		}
		wantSame(t, "rebuilt", l, p)
		if l.Flush() || l.Step() {
			t.Fatal("something is in memory, or to be done")
		}
	}
}

// TestRebuildRefused: P14.3: one entry that may not be is enough, wherever it stands, and though another one of its key comes behind it.
func TestRebuildRefused(t *testing.T) {
	good := []api.Entry{{Key: "b", Value: "1"}, {Key: "a", Gone: true}, {Key: "b", Gone: true}, {Key: "b", Value: "2"}}
	if l, e := level.Rebuild(small(2, 1), good); e != api.OK || len(told(l, "", "")) != 1 {
		t.Error("Rebuild", e)
	}
	for _, x := range []api.Entry{{}, {Gone: true}, {Key: long(65)}, {Key: "b", Value: long(65)}, {Key: "b", Value: "1", Gone: true}, {Value: "1"}} {
		for i := range len(good) + 1 {
			if l, e := level.Rebuild(small(2, 1), slices.Insert(slices.Clone(good), i, x)); e != api.ErrItem || l != nil {
				t.Error("Rebuild with", x, "at", i, e)
			}
		}
	}
	for _, none := range [][]api.Entry{nil, {}, {{Key: "a", Gone: true}}, {{Key: "a", Value: "1"}, {Key: "a", Gone: true}}} {
		l, e := level.Rebuild(small(2, 1), none)
		if e != api.OK {
			t.Fatal("Rebuild", none, e)
		}
		wantSame(t, "nothing is left", l, newPlain(small(2, 1)))
	}
}
