package run_test

import (
	"maps"
	"math/rand"
	"slices"
	"testing"

	"dedup/api"
	"dedup/run"
)

// plainMerge is lists as one: those behind are overwritten by those ahead.
func plainMerge(lists [][]api.Entry, drop bool) []api.Entry {
	m := map[string]api.Entry{}
	for _, l := range slices.Backward(lists) {
		for _, x := range l {
			m[x.Key] = x
		}
	}
	var merged []api.Entry
	for _, key := range slices.Sorted(maps.Keys(m)) {
		if !drop || !m[key].Gone {
			merged = append(merged, m[key])
		}
	}
	return merged
}

// TestMerge: P12.4, P12.8: of each key the first run's entry; those that are gone hide others, dropped or not.
func TestMerge(t *testing.T) {
	r := rand.New(rand.NewSource(128))
	for range 400 {
		var lists [][]api.Entry
		var runs []*run.Run
		for range r.Intn(6) {
			if r.Intn(6) == 0 {
				lists, runs = append(lists, nil), append(runs, nil)
				continue
			}
			l := someList(r, r.Intn(30))
			for i := range l {
				l[i].Key = l[i].Key[:min(len(l[i].Key), 3)] // so that keys meet
			}
			l = slices.CompactFunc(l, func(a, b api.Entry) bool { return a.Key == b.Key })
			lists, runs = append(lists, l), append(runs, mustRun(t, l, 256+r.Intn(100)))
		}
		for _, drop := range []bool{false, true} {
			got := run.Merge(runs, drop)
			if want := plainMerge(lists, drop); !slices.Equal(got, want) || run.Check(got) != api.OK {
				t.Fatalf("Merge: %v, want %v", got, want)
			}
		}
	}
	if l := run.Merge(nil, true); len(l) != 0 {
		t.Error("Merge of nothing", l)
	}
}

// TestMergeExample: the chapter's second example; and without drop.
func TestMergeExample(t *testing.T) {
	a := mustRun(t, []api.Entry{{Key: "a", Value: "1"}, {Key: "b", Gone: true}}, 256)
	b := mustRun(t, []api.Entry{{Key: "a", Value: "9"}, {Key: "b", Value: "8"}, {Key: "c", Value: "7"}}, 4096)
	for _, runs := range [][]*run.Run{{a, b}, {nil, a, nil, b}, {a, b, b, a}} {
		if l := run.Merge(runs, true); !slices.Equal(l, []api.Entry{{Key: "a", Value: "1"}, {Key: "c", Value: "7"}}) {
			t.Error("Merge", l)
		}
		if l := run.Merge(runs, false); !slices.Equal(l, []api.Entry{{Key: "a", Value: "1"}, {Key: "b", Gone: true}, {Key: "c", Value: "7"}}) {
			t.Error("Merge", l)
		}
	}
	if l := run.Merge([]*run.Run{b, a}, true); !slices.Equal(l, []api.Entry{{Key: "a", Value: "9"}, {Key: "b", Value: "8"}, {Key: "c", Value: "7"}}) {
		t.Error("Merge the other way", l)
	}
}
