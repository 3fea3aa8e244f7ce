package run_test

import (
	"maps"
	"math/rand"
	"slices"
	"testing"

	"dedup/api"
	"dedup/run"
)

// wantMem holds a Mem against a map.
func wantMem(t *testing.T, what string, m *run.Mem, want map[string]api.Entry) {
	t.Helper()
	var l []api.Entry
	for _, key := range slices.Sorted(maps.Keys(want)) {
		l = append(l, want[key])
		if x, is := m.Get(key); !is || x != want[key] {
			t.Fatalf("%s: Get(%q): %v, %v", what, key, x, is)
		}
		if x, is := m.Get(key + "\x01"); is || x != (api.Entry{}) {
			t.Fatalf("%s: Get of another key: %v", what, x)
		}
	}
	if got := slices.Collect(m.All()); !slices.Equal(got, l) || m.Len() != len(l) {
		t.Fatalf("%s: %d of %v, want %v", what, m.Len(), got, l)
	}
}

// TestMem: P12.1: entries in memory are a map of those that are there and those that are gone; forks are their own.
func TestMem(t *testing.T) {
	r := rand.New(rand.NewSource(121))
	type both struct {
		m    *run.Mem
		want map[string]api.Entry
	}
	all := []both{{run.NewMem(), map[string]api.Entry{}}}
	wantMem(t, "a new one", all[0].m, nil)
	for range 5000 {
		x := all[r.Intn(len(all))]
		key, value := someText(r, 1, 4), someText(r, 0, 64)
		switch r.Intn(40) {
		case 0:
			x.m.Clear()
			clear(x.want)
			wantMem(t, "Clear", x.m, nil)
		case 1:
			all = append(all, both{x.m.Fork(), maps.Clone(x.want)})
		case 2, 3, 4, 5, 6, 7, 8, 9, 10:
			if e := x.m.Delete(key); e != api.OK {
				t.Fatal("Delete", e)
			}
			x.want[key] = api.Entry{Key: key, Gone: true}
		default:
			if e := x.m.Put(key, value); e != api.OK {
				t.Fatal("Put", e)
			}
			x.want[key] = api.Entry{Key: key, Value: value}
		}
		if r.Intn(20) == 0 {
			wantMem(t, "some", x.m, x.want)
		}
	}
	for _, x := range all {
		wantMem(t, "all", x.m, x.want)
	}
}

// TestMemRefused: P12.1: entries that may not be are refused, and nothing has changed.
func TestMemRefused(t *testing.T) {
	m := run.NewMem()
	m.Put("a", "1")
	for _, c := range []struct {
		key, value string
		put, gone  api.Errno
	}{
		{"", "", api.ErrItem, api.ErrItem},
		{long(65), "", api.ErrItem, api.ErrItem},
		{long(70000), "", api.ErrItem, api.ErrItem},
		{"a", long(65), api.ErrItem, api.OK},
		{"", long(65), api.ErrItem, api.ErrItem},
		{long(64), long(64), api.OK, api.OK},
		{"\x00", "", api.OK, api.OK},
	} {
		f := m.Fork()
		e := f.Put(c.key, c.value)
		if e != c.put {
			t.Errorf("Put(%.9q): error %d, want %d", c.key, e, c.put)
		}
		if x, is := f.Get(c.key); e == api.OK && (!is || x != api.Entry{Key: c.key, Value: c.value}) {
			t.Errorf("Get(%.9q): %v", c.key, x)
		}
		if e != api.OK {
			wantMem(t, "refused", f, map[string]api.Entry{"a": {Key: "a", Value: "1"}})
		}
		e = f.Delete(c.key)
		if e != c.gone {
			t.Errorf("Delete(%.9q): error %d, want %d", c.key, e, c.gone)
		}
		if x, is := f.Get(c.key); is != (e == api.OK) || is && x != (api.Entry{Key: c.key, Gone: true}) {
			t.Errorf("Get(%.9q): %v, %v", c.key, x, is)
		}
	}
	wantMem(t, "the first one", m, map[string]api.Entry{"a": {Key: "a", Value: "1"}})
}

// TestMemAll: P12.1, R5: All is as it is when it is ranged over, may be stopped and begins anew; what is done meanwhile is not seen.
func TestMemAll(t *testing.T) {
	m := run.NewMem()
	all := m.All()
	for _, key := range []string{"c", "a", "b"} {
		m.Put(key, key)
	}
	want := []api.Entry{{Key: "a", Value: "a"}, {Key: "b", Value: "b"}, {Key: "c", Value: "c"}}
	if got := slices.Collect(all); !slices.Equal(got, want) {
		t.Error("All", got)
	}
	for range all {
		break
	}
	var got []api.Entry
	for x := range all {
		got = append(got, x)
		if len(got) == 1 {
			m.Delete("b")
			m.Put("d", "d")
		} else {
			m.Clear()
			m.Put("e", "e")
		}
	}
	if !slices.Equal(got, want) {
		t.Error("All while it changes", got)
	}
	if got := slices.Collect(all); !slices.Equal(got, []api.Entry{{Key: "e", Value: "e"}}) {
		t.Error("All anew", got)
	}
}

// TestNone: P12.5: of a Mem or a Run that no call gave.
func TestNone(t *testing.T) {
	for _, m := range []*run.Mem{nil, {}} {
		x, is := m.Get("a")
		if m.Put("a", "1") != api.ErrClosed || m.Delete("a") != api.ErrClosed || m.Put("", long(65)) != api.ErrClosed || is || x != (api.Entry{}) {
			t.Error("a Mem that nobody gave", x, is)
		}
		m.Clear()
		if m.Len() != 0 || m.Fork() != nil || len(slices.Collect(m.All())) != 0 || m.Put("a", "1") != api.ErrClosed {
			t.Error("a Mem that nobody gave")
		}
	}
	for _, r := range []*run.Run{nil, {}} {
		x, is := r.Get("a")
		if is || x != (api.Entry{}) || r.Len() != 0 || r.Blocks() != 0 || len(r.Bytes()) != 0 || len(slices.Collect(r.Scan("", ""))) != 0 {
			t.Error("a Run that nobody gave", x, is)
		}
		if l := run.Merge([]*run.Run{r, r}, false); len(l) != 0 {
			t.Error("Merge of none", l)
		}
	}
}
