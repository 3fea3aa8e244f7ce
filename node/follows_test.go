package node_test

import (
	"fmt"
	"maps"
	"math/rand"
	"slices"
	"testing"

	"dedup/api"
	"dedup/node"
)

// bytesOf is how many bytes the entries from from to end - 1 have, in plain.
func bytesOf(n api.Node, from, end int) int {
	sum := 0
	for i := from; i < end; i++ {
		if n.Leaf {
			sum += 2 + len(n.Keys[i]) + len(n.Values[i])
		} else {
			sum += 5 + len(n.Keys[i])
		}
	}
	return sum
}

// plainSplit is how many entries the left half has, by the chapter's words; 0, if there are too few.
func plainSplit(n api.Node) int {
	last := len(n.Keys) - 1
	if !n.Leaf {
		last--
	}
	if last < 1 {
		return 0
	}
	for i := 1; i <= last; i++ {
		if 2*bytesOf(n, 0, i) >= bytesOf(n, 0, len(n.Keys)) {
			return i
		}
	}
	return last
}

// wantSplit holds what Split tells: the first i entries, and those behind them (of an inner node behind the next one).
func wantSplit(t *testing.T, n api.Node, i int) {
	t.Helper()
	left, key, right, e := node.Split(n)
	if i == 0 {
		wantNoNode(t, "Split, left", left, e, api.ErrNone)
		wantNoNode(t, "Split, right", right, e, api.ErrNone)
		if key != "" {
			t.Errorf("Split, beside an error: %q", key)
		}
		return
	}
	wantLeft := api.Node{Leaf: n.Leaf, Keys: n.Keys[:i]}
	wantRight := api.Node{Leaf: n.Leaf}
	if n.Leaf {
		wantLeft.Values = n.Values[:i]
		wantRight.Keys, wantRight.Values = n.Keys[i:], n.Values[i:]
	} else {
		wantLeft.Kids = n.Kids[:i+1]
		wantRight.Keys, wantRight.Kids = n.Keys[i+1:], n.Kids[i+1:]
	}
	wantNode(t, "Split, left", left, e, wantLeft)
	wantNode(t, "Split, right", right, e, wantRight)
	if key != n.Keys[i] {
		t.Errorf("Split of %+v: key %q", n, key)
	}
}

// TestSplit: P9.4: where a node is split: at half of its bytes, with an entry on both sides at least.
func TestSplit(t *testing.T) {
	for _, c := range []struct {
		n api.Node
		i int
	}{
		{api.Node{Leaf: true}, 0},
		{leaf("a", "1"), 0},
		{leaf("a", "1", "b", "2"), 1},
		{leaf("a", long(64), "b", ""), 1},
		{leaf("a", "", "b", long(64)), 1},
		{leaf("a", "", "b", "", "c", ""), 2},
		{leaf("a", "123", "b", "", "c", ""), 1},             // 6 of 12: just half
		{leaf("a", "12", "b", "", "c", ""), 2},              // 5 of 11
		{leaf("a", "", "b", "", "c", "", "d", long(64)), 3}, // none has half: the last one
		{leaf("a", "", "b", "", "c", "", "d", "123456"), 3}, // 9 of 18
		{leaf("a", "", "b", "", "c", "", "d", "12345"), 3},
		{leaf("a", "", "b", "", "c", "", "d", ""), 2},
		{inner("a"), 0},
		{inner("a", "b"), 0},
		{inner("a", "b", "c"), 1},
		{inner("a", "b", "c", "d"), 2},
		{inner("a", "b", "c", "d", "e"), 3},
		{inner("a", "b", "c", "d", "e", "f"), 3},
		{inner(long(64), "l", "m", "n"), 1},
		{inner("a", "b", "c", long(64)), 2},
		{inner("a", "bbbbbbb", "c", "d"), 2},
		{inner("aaaaaaa", "b", "c"), 1},
		{inner("aaaaaaa", "b", "c", "d", "e"), 2},
		{inner("aaaaaaaaaaaaaaaaaaa", "b", "c", "d", "e"), 1}, // 24 of 48: just half
	} {
		if plain := plainSplit(c.n); plain != c.i {
			t.Errorf("the plain split of %+v is %d, not %d", c.n, plain, c.i)
		}
		wantSplit(t, c.n, c.i)
	}
}

// TestSplitRefused: P9.4: what Check refuses, ahead of that there are too few keys.
func TestSplitRefused(t *testing.T) {
	for what, c := range refused() {
		left, key, right, e := node.Split(c.n)
		wantNoNode(t, what, left, e, c.e)
		wantNoNode(t, what, right, e, c.e)
		if key != "" {
			t.Errorf("%s: key %q", what, key)
		}
	}
}

// TestHalves: P9.4 to P9.6: of any node that is at most 130 bytes too great both halves may be, fit, have an entry, and are the node again when they are joined.
func TestHalves(t *testing.T) {
	r := rand.New(rand.NewSource(96))
	splits := 0
	for range 4000 {
		size := 512 << r.Intn(4)
		n := someNode(r, size+130, r.Intn(2) == 0)
		wantSplit(t, n, plainSplit(n))
		left, key, right, e := node.Split(n)
		if e != api.OK {
			continue
		}
		splits++
		for _, half := range []api.Node{left, right} {
			if node.Check(half) != api.OK || len(half.Keys) == 0 {
				t.Fatalf("a half of %+v: %+v", n, half)
			}
			if node.Size(half) > size {
				t.Fatalf("a half of %d bytes, size %d", node.Size(half), size)
			}
			if _, e := node.Encode(size, half); e != api.OK {
				t.Fatal("Encode of a half", e)
			}
		}
		again, e := node.Join(left, key, right)
		wantNode(t, "Join of Split", again, e, n)
	}
	if splits < 2000 {
		t.Error("too few splits:", splits)
	}
}

// TestWorstHalves: P9.6: the greatest entries at the worst places, in the smallest size.
func TestWorstHalves(t *testing.T) {
	for big := range 3 {
		for small := range 180 {
			n := api.Node{Leaf: true}
			for i := range small {
				n.Keys, n.Values = append(n.Keys, fmt.Sprintf("%03d", i)), append(n.Values, "")
			}
			for i := range big {
				n.Keys, n.Values = append(n.Keys, fmt.Sprintf("z%063d", i)), append(n.Values, long(64))
			}
			if node.Size(n) > 512+130 || len(n.Keys) < 2 {
				continue
			}
			left, _, right, e := node.Split(n)
			if e != api.OK || node.Size(left) > 512 || node.Size(right) > 512 {
				t.Fatal("Split", big, small, e, node.Size(left), node.Size(right))
			}
		}
	}
}

// TestJoins: P9.4: of any two nodes Join tells their entries one behind the other, if they rise.
func TestJoins(t *testing.T) {
	r := rand.New(rand.NewSource(94))
	joined := 0
	for range 4000 {
		isLeaf := r.Intn(2) == 0
		left, right, key := someNode(r, 60, isLeaf), someNode(r, 60, isLeaf), someText(r, 1, 3)
		want := api.Node{Leaf: isLeaf}
		want.Keys = append(want.Keys, left.Keys...)
		if !isLeaf {
			want.Keys = append(want.Keys, key)
		}
		want.Keys = append(want.Keys, right.Keys...)
		want.Values = append(append(want.Values, left.Values...), right.Values...)
		want.Kids = append(append(want.Kids, left.Kids...), right.Kids...)
		rises := slices.IsSorted(want.Keys) && len(slices.Compact(slices.Clone(want.Keys))) == len(want.Keys)
		n, e := node.Join(left, key, right)
		if !rises {
			wantNoNode(t, "Join", n, e, api.ErrEntry)
			continue
		}
		joined++
		wantNode(t, "Join", n, e, want)
	}
	if joined < 200 {
		t.Error("too few joined:", joined)
	}
}

// TestSortedMap: P9.7: Put, Remove and Find on leaves are a sorted map.
func TestSortedMap(t *testing.T) {
	r := rand.New(rand.NewSource(97))
	for range 60 {
		n, plain := api.Node{Leaf: true}, map[string]string{}
		for range 150 {
			key, value := someText(r, 1, 3), someText(r, 0, 2)
			old, had := plain[key]
			keys := slices.Sorted(maps.Keys(plain))
			place, there := node.Find(n, key)
			wantPlace, _ := slices.BinarySearch(keys, key)
			if place != wantPlace || there != had || had && n.Values[place] != old {
				t.Fatalf("Find of %q in %+v: %d, %v", key, n, place, there)
			}
			if r.Intn(3) > 0 {
				var e api.Errno
				if n, e = node.Put(n, key, value); e != api.OK {
					t.Fatal("Put", e)
				}
				plain[key] = value
			} else {
				var ok bool
				if n, ok = node.Remove(n, key); ok != had {
					t.Fatalf("Remove of %q: %v", key, ok)
				}
				delete(plain, key)
			}
			want := api.Node{Leaf: true, Keys: slices.Sorted(maps.Keys(plain))}
			for _, k := range want.Keys {
				want.Values = append(want.Values, plain[k])
			}
			wantNode(t, "the leaf", n, node.Check(n), want)
		}
	}
}
