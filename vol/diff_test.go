package vol_test

import (
	"fmt"
	"maps"
	"math/rand"
	"slices"
	"strings"
	"testing"

	"dedup/api"
	"dedup/disk"
	"dedup/tree"
	"dedup/vol"
)

// treeOf is a tree with these pairs.
func treeOf(t *testing.T, l map[string]string) *tree.Tree {
	t.Helper()
	u, _ := tree.New(512)
	for _, key := range slices.Sorted(maps.Keys(l)) {
		with, e := u.Put(key, l[key])
		if e != api.OK {
			t.Fatal("Put", key, e)
		}
		u = with
	}
	return u
}

// diffOf is the diff of two maps, by the words.
func diffOf(a, b map[string]string) []api.Entry {
	var l []api.Entry
	keys := map[string]bool{}
	for key := range a {
		keys[key] = true
	}
	for key := range b {
		keys[key] = true
	}
	for _, key := range slices.Sorted(maps.Keys(keys)) {
		was, is := a[key]
		now, stays := b[key]
		switch {
		case !stays:
			l = append(l, api.Entry{Key: key, Gone: true})
		case !is || was != now:
			l = append(l, api.Entry{Key: key, Value: now})
		}
	}
	return l
}

// anyPairs is some pairs of few keys, so that two of them have keys in common.
func anyPairs(r *rand.Rand) map[string]string {
	l := map[string]string{}
	for range r.Intn(60) {
		l[strings.Repeat(fmt.Sprint("k", r.Intn(40)), 1+r.Intn(2))] = strings.Repeat("v", r.Intn(3)*30)
	}
	return l
}

// TestDiff: P25.1: of any two trees the diff is what the words say, its record is read as the diff, and applied it makes the one of the other.
func TestDiff(t *testing.T) {
	r := rand.New(rand.NewSource(25))
	for range 300 {
		a, b := anyPairs(r), anyPairs(r)
		u, w := treeOf(t, a), treeOf(t, b)
		l, e := vol.Diff(u, w)
		if want := diffOf(a, b); e != api.OK || !slices.Equal(l, want) {
			t.Fatal("Diff", l, e, "want", want)
		}
		again, e := vol.Entries(vol.Record(l))
		if e != api.OK || !slices.Equal(again, l) {
			t.Fatal("Entries of Record", again, e, "want", l)
		}
		x, e := vol.Apply(u, l)
		if e != api.OK || !maps.Equal(pairs(x), b) || x.Check() != api.OK {
			t.Fatal("Apply", pairs(x), e, "want", b)
		}
		if !maps.Equal(pairs(u), a) || !maps.Equal(pairs(w), b) {
			t.Fatal("a tree has changed")
		}
	}
}

// brokenTree is a tree of several nodes, of which one can't be read.
func brokenTree(t *testing.T, d *disk.Disk) *tree.Tree {
	t.Helper()
	l := map[string]string{}
	for i := range 30 {
		l[fmt.Sprintf("k%02d", i)] = strings.Repeat("v", 40)
	}
	u := treeOf(t, l)
	var sectors []int
	for i := range u.Dirty() {
		sectors = append(sectors, i)
	}
	_, nodes, _ := u.Place(sectors)
	for _, s := range nodes[1:] {
		d.Write(s.N, s.Bytes)
	}
	broken, e := tree.Open(512, len(nodes)-1, d)
	if e != api.OK {
		t.Fatal("Open", e)
	}
	return broken
}

// TestDiffRefused: P25.1: a nil tree is told ahead of a broken one; and what Apply refuses.
func TestDiffRefused(t *testing.T) {
	d, _ := disk.New(512, 64)
	broken, empty := brokenTree(t, d), treeOf(t, nil)
	for _, x := range []struct {
		a, b *tree.Tree
		want api.Errno
	}{
		{nil, nil, api.ErrArg}, {nil, empty, api.ErrArg}, {empty, nil, api.ErrArg}, {nil, broken, api.ErrArg}, {broken, nil, api.ErrArg},
		{broken, empty, api.ErrTree}, {empty, broken, api.ErrTree}, {broken, broken, api.ErrTree},
	} {
		if l, e := vol.Diff(x.a, x.b); len(l) > 0 || e != x.want {
			t.Error("Diff", l, e, "want", x.want)
		}
	}
	for _, x := range []struct {
		u    *tree.Tree
		l    []api.Entry
		want api.Errno
	}{
		{nil, nil, api.ErrArg}, {nil, []api.Entry{{Key: "a"}}, api.ErrArg},
		{broken, []api.Entry{{Key: "a"}}, api.ErrTree}, {broken, []api.Entry{{Key: "a", Gone: true}}, api.ErrTree},
		{empty, []api.Entry{{Key: "a"}, {Key: ""}}, api.ErrEntry}, {empty, []api.Entry{{Key: strings.Repeat("a", 65)}}, api.ErrEntry},
		{empty, []api.Entry{{Key: "a", Value: strings.Repeat("a", 65)}}, api.ErrEntry},
	} {
		if u, e := vol.Apply(x.u, x.l); u != nil || e != x.want {
			t.Error("Apply", x.l, e, "want", x.want)
		}
	}
}

// TestApply: P25.1: Put and Delete, key by key, in any order; of none the tree itself.
func TestApply(t *testing.T) {
	u := treeOf(t, map[string]string{"a": "1", "b": "2"})
	w, e := vol.Apply(u, []api.Entry{{Key: "c", Value: "3"}, {Key: "a", Gone: true, Value: "no"}, {Key: "x", Gone: true}, {Key: "c", Value: "4"}})
	if want := map[string]string{"b": "2", "c": "4"}; e != api.OK || !maps.Equal(pairs(w), want) {
		t.Error("Apply", pairs(w), e)
	}
	if w, e := vol.Apply(u, nil); e != api.OK || !maps.Equal(pairs(w), pairs(u)) {
		t.Error("Apply of nothing", e)
	}
	if w, e := vol.Apply(u, []api.Entry{{Gone: true}, {Key: strings.Repeat("a", 99), Gone: true}}); e != api.OK || !maps.Equal(pairs(w), pairs(u)) {
		t.Error("keys that may not be are not there", e)
	}
}

// TestRecord: P25.1: a record's bytes, of any entries.
func TestRecord(t *testing.T) {
	long := strings.Repeat("v", 300)
	for _, x := range []struct {
		l    []api.Entry
		want string
	}{
		{nil, ""},
		{[]api.Entry{{Key: "ab", Value: "c"}}, "\x01\x02ab\x01c"},
		{[]api.Entry{{Key: "ab"}, {Key: "b", Gone: true}}, "\x01\x02ab\x00\x02\x01b"},
		{[]api.Entry{{Key: "z", Value: "not told", Gone: true}, {}, {Key: "a", Value: long}}, "\x02\x01z\x01\x00\x00\x01\x01a\xac\x02" + long},
	} {
		if s := vol.Record(x.l); s != x.want {
			t.Errorf("Record of %v: %q, want %q", x.l, s, x.want)
		}
	}
}

// TestEntries: P25.1: which bytes are no record: something is left, another byte, no text, keys that do not rise.
func TestEntries(t *testing.T) {
	good := []api.Entry{{Key: "", Value: "x"}, {Key: "a", Gone: true}, {Key: "b"}, {Key: "b\x00", Value: strings.Repeat("v", 200)}, {Key: strings.Repeat("k", 100)}}
	rec := vol.Record(good)
	if l, e := vol.Entries(rec); e != api.OK || !slices.Equal(l, good) {
		t.Fatal("Entries", l, e)
	}
	if l, e := vol.Entries(""); e != api.OK || len(l) > 0 {
		t.Error("Entries of nothing", l, e)
	}
	ends := map[int]bool{}
	for i := range good {
		ends[len(vol.Record(good[:i]))] = true
	}
	for n := range len(rec) {
		if l, e := vol.Entries(rec[:n]); ends[n] != (e == api.OK) || e != api.OK && (e != api.ErrVolume || l != nil) {
			t.Error("the first bytes", n, l, e)
		}
	}
	for _, bad := range []string{
		rec + "\x01", rec + "\x02", rec + "\x00", "\x00\x01a\x01b", "\x03\x01a\x01b", "\x03\x01a", "\xff", "\x00", "\x01", "\x02",
		"\x01\x81\x00a\x00", "\x02\x81\x00a", "\x01\x01a\x80\x00", "\x02\x02a", "\x01\x01a\x02b", "\x01\xff\xff\xff\xff\xff\xff\xff\xff\xff\x01a",
		"\x02\x01a\x02\x01a", "\x01\x01a\x00\x02\x01a", "\x02\x01b\x02\x01a", "\x02\x01a\x02\x00", "\x02\x00\x02\x00",
	} {
		if l, e := vol.Entries(bad); l != nil || e != api.ErrVolume {
			t.Errorf("Entries of %q: %v %d", bad, l, e)
		}
	}
}

// TestEntriesOfAny: P25.1: of any bytes: what is read as entries has these bytes as its record, and its keys rise.
func TestEntriesOfAny(t *testing.T) {
	r := rand.New(rand.NewSource(251))
	read := 0
	for range 200000 {
		b := make([]byte, r.Intn(14))
		for i := range b {
			b[i] = byte(r.Intn(4))
		}
		l, e := vol.Entries(string(b))
		if e == api.OK {
			read++
			rises := slices.IsSortedFunc(l, func(x, y api.Entry) int { return strings.Compare(x.Key, y.Key) })
			if vol.Record(l) != string(b) || !rises {
				t.Fatalf("Entries of %q: %v", b, l)
			}
		} else if e != api.ErrVolume || l != nil {
			t.Fatal("Entries", l, e)
		}
	}
	if read < 1000 {
		t.Error("too few", read)
	}
}
