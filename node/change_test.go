package node_test

import (
	"fmt"
	"slices"
	"testing"

	"dedup/api"
	"dedup/node"
)

// TestFind: P9.3: of a leaf the keys below, and whether the next one is it; of an inner node the keys at most it, and false.
func TestFind(t *testing.T) {
	l, in := leaf("b", "1", "d", "2", "dd", "3"), inner("b", "d", "dd")
	for _, c := range []struct {
		key   string
		leaf  int
		there bool
		inner int
	}{
		{"", 0, false, 0},
		{"a", 0, false, 0},
		{"a\xff", 0, false, 0},
		{"b", 0, true, 1},
		{"b\x00", 1, false, 1},
		{"c", 1, false, 1},
		{"d", 1, true, 2},
		{"d\x00", 2, false, 2},
		{"dd", 2, true, 3},
		{"de", 3, false, 3},
		{"\xff", 3, false, 3},
		{long(65), 3, false, 3},
	} {
		if place, there := node.Find(l, c.key); place != c.leaf || there != c.there {
			t.Errorf("Find of %q in a leaf: %d, %v", c.key, place, there)
		}
		if place, there := node.Find(in, c.key); place != c.inner || there {
			t.Errorf("Find of %q in an inner node: %d, %v", c.key, place, there)
		}
	}
	for _, n := range []api.Node{{Leaf: true}, {}, {Kids: []int{1}}} {
		if place, there := node.Find(n, "a"); place != 0 || there {
			t.Errorf("Find in %+v: %d, %v", n, place, there)
		}
	}
	one := api.Node{Keys: []string{"m"}, Kids: []int{5, 9}}
	if place, _ := node.Find(one, "m"); place != 1 {
		t.Error("Find of m", place)
	}
	if place, _ := node.Find(one, "l"); place != 0 {
		t.Error("Find of l", place)
	}
}

// TestFindCounts: P9.3: keys are counted, also those that do not rise; of an inner node it is false, whichever key is the next one.
func TestFindCounts(t *testing.T) {
	for _, keys := range [][]string{{"d", "a", "c", "a", "b"}, {"c", "a", "b"}, {"b", "b", "a"}} {
		l, in := api.Node{Leaf: true, Keys: keys, Values: make([]string, len(keys))}, inner(keys...)
		for _, key := range []string{"", "a", "aa", "b", "c", "d", "e"} {
			below, most := 0, 0
			for _, k := range keys {
				if k < key {
					below++
				}
				if k <= key {
					most++
				}
			}
			want := below < len(keys) && keys[below] == key
			if place, there := node.Find(l, key); place != below || there != want {
				t.Errorf("Find of %q in a leaf: %d, %v, want %d, %v", key, place, there, below, want)
			}
			if place, there := node.Find(in, key); place != most || there {
				t.Errorf("Find of %q in an inner node: %d, %v, want %d", key, place, there, most)
			}
		}
	}
}

// TestPut: P9.3: a key between others, or an old one's new value.
func TestPut(t *testing.T) {
	l := leaf("b", "1", "d", "2")
	for _, c := range []struct {
		key, value string
		want       api.Node
	}{
		{"a", "x", leaf("a", "x", "b", "1", "d", "2")},
		{"b", "x", leaf("b", "x", "d", "2")},
		{"b", "", leaf("b", "", "d", "2")},
		{"b", "1", leaf("b", "1", "d", "2")},
		{"b\x00", "x", leaf("b", "1", "b\x00", "x", "d", "2")},
		{"c", "", leaf("b", "1", "c", "", "d", "2")},
		{"d", long(64), leaf("b", "1", "d", long(64))},
		{"e", "x", leaf("b", "1", "d", "2", "e", "x")},
		{"\xff", "x", leaf("b", "1", "d", "2", "\xff", "x")},
		{long(64), long(64), leaf("b", "1", "d", "2", long(64), long(64))},
	} {
		n, e := node.Put(l, c.key, c.value)
		wantNode(t, "Put of "+c.key, n, e, c.want)
	}
	n, e := node.Put(api.Node{Leaf: true}, "a", "")
	wantNode(t, "Put into an empty leaf", n, e, leaf("a", ""))
	great := filled(8000)
	n, e = node.Put(great, "a", "1")
	wantNode(t, "Put, whatever its Size is", n, e, api.Node{Leaf: true, Keys: append(slices.Clone(great.Keys), "a"), Values: append(slices.Clone(great.Values), "1")})
}

// TestPutRefused: P9.3: no leaf that may be comes first, then the key and the value.
func TestPutRefused(t *testing.T) {
	wrong := [][2]string{{"", ""}, {"", "1"}, {long(65), "1"}, {"a", long(65)}, {"", long(65)}, {long(1000), long(1000)}}
	pairs := append(slices.Clone(wrong), [2]string{"a", "1"})
	nodes := map[string]api.Node{"an inner one": inner("a"), "an inner one without keys": {Kids: []int{1}}}
	for what, c := range refused() {
		nodes[what] = c.n
	}
	for what, n := range nodes {
		for _, p := range pairs {
			m, e := node.Put(n, p[0], p[1])
			wantNoNode(t, "Put into "+what, m, e, api.ErrNode)
		}
	}
	for _, n := range []api.Node{{Leaf: true}, leaf("a", "1")} {
		for _, p := range wrong {
			m, e := node.Put(n, p[0], p[1])
			wantNoNode(t, fmt.Sprint("Put of ", len(p[0]), " ", len(p[1])), m, e, api.ErrEntry)
		}
	}
}

// wantRemove holds what Remove tells.
func wantRemove(t *testing.T, n api.Node, key string, want api.Node, there bool) {
	t.Helper()
	if got, ok := node.Remove(n, key); ok != there || !same(got, want) {
		t.Errorf("Remove of %q from %+v: %+v, %v", key, n, got, ok)
	}
}

// TestRemove: P9.3: the leaf without a key that it has; else the node itself.
func TestRemove(t *testing.T) {
	l := leaf("a", "1", "b", "2", "c", "3")
	wantRemove(t, l, "a", leaf("b", "2", "c", "3"), true)
	wantRemove(t, l, "b", leaf("a", "1", "c", "3"), true)
	wantRemove(t, l, "c", leaf("a", "1", "b", "2"), true)
	wantRemove(t, leaf("a", ""), "a", api.Node{Leaf: true}, true)
	for _, key := range []string{"", "0", "aa", "B", "d", long(65)} {
		wantRemove(t, l, key, l, false)
	}
	wantRemove(t, api.Node{Leaf: true}, "a", api.Node{Leaf: true}, false)
	wantRemove(t, api.Node{}, "a", api.Node{}, false)
	wantRemove(t, inner("a", "b"), "a", inner("a", "b"), false)
	for _, c := range refused() {
		wantRemove(t, c.n, "zz", c.n, false)
	}
}

// TestRemoveAnyLeaf: P9.3: a leaf whose keys do not rise is without the key then, too.
func TestRemoveAnyLeaf(t *testing.T) {
	wantRemove(t, leaf("b", "1", "a", "2"), "b", leaf("a", "2"), true)
	wantRemove(t, leaf("b", "1", "a", "2"), "a", leaf("b", "1"), true)
	wantRemove(t, leaf("a", "1", "b", "2", "a", "3"), "a", leaf("b", "2"), true)
	wantRemove(t, leaf("", "1", long(65), "2"), long(65), leaf("", "1"), true)
}

// TestJoin: P9.4: of leaves all entries, whatever the key is; of inner nodes all, with the key between them.
func TestJoin(t *testing.T) {
	empty := api.Node{Leaf: true}
	for _, c := range []struct {
		left  api.Node
		key   string
		right api.Node
		want  api.Node
	}{
		{leaf("a", "1"), "b", leaf("b", "2", "c", "3"), leaf("a", "1", "b", "2", "c", "3")},
		{leaf("a", "1"), "", leaf("b", "2"), leaf("a", "1", "b", "2")},
		{leaf("a", "1"), "z", leaf("b", "2"), leaf("a", "1", "b", "2")},
		{leaf("a", "1"), long(65), leaf("b", "2"), leaf("a", "1", "b", "2")},
		{empty, "a", leaf("b", "2"), leaf("b", "2")},
		{leaf("b", "2"), "a", empty, leaf("b", "2")},
		{empty, "a", empty, empty},
		{inner("a"), "b", inner("c"), api.Node{Keys: []string{"a", "b", "c"}, Kids: []int{1, 2, 1, 2}}},
		{inner("a"), "a\x00", inner("b", "c"), api.Node{Keys: []string{"a", "a\x00", "b", "c"}, Kids: []int{1, 2, 1, 2, 3}}},
		{api.Node{Kids: []int{7}}, "b", inner("c"), api.Node{Keys: []string{"b", "c"}, Kids: []int{7, 1, 2}}},
		{inner("a"), "b", api.Node{Kids: []int{7}}, api.Node{Keys: []string{"a", "b"}, Kids: []int{1, 2, 7}}},
		{api.Node{Kids: []int{7}}, "b", api.Node{Kids: []int{7}}, api.Node{Keys: []string{"b"}, Kids: []int{7, 7}}},
		{api.Node{Kids: []int{0}}, long(64), api.Node{Kids: []int{1<<32 - 1}}, api.Node{Keys: []string{long(64)}, Kids: []int{0, 1<<32 - 1}}},
	} {
		n, e := node.Join(c.left, c.key, c.right)
		wantNode(t, fmt.Sprintf("Join of %+v, %q, %+v", c.left, c.key, c.right), n, e, c.want)
	}
}

// TestJoinRefused: P9.4: nodes of two kinds, or that may not be; then keys that do not rise.
func TestJoinRefused(t *testing.T) {
	refuse := func(left api.Node, key string, right api.Node, want api.Errno) {
		t.Helper()
		n, e := node.Join(left, key, right)
		wantNoNode(t, fmt.Sprintf("Join of %+v, %q, %+v", left, key, right), n, e, want)
	}
	empty, bare := api.Node{Leaf: true}, api.Node{Kids: []int{3}}
	for _, l := range []api.Node{empty, leaf("a", "1")} {
		for _, in := range []api.Node{bare, inner("c")} {
			refuse(l, "b", in, api.ErrNode)
			refuse(in, "b", l, api.ErrNode)
		}
	}
	for what, c := range refused() {
		if what == "no keys" {
			continue // which is taken here
		}
		for _, n := range []api.Node{empty, bare, leaf("zz", "1"), inner("zz")} {
			refuse(c.n, "zy", n, api.ErrNode)
			refuse(n, "zy", c.n, api.ErrNode)
		}
	}
	refuse(leaf("a", "1", "c", "2"), "c", leaf("c", "3"), api.ErrEntry)
	refuse(leaf("a", "1", "c", "2"), "c", leaf("b", "3", "d", "4"), api.ErrEntry)
	refuse(leaf("b", "1"), "a", leaf("a", "2"), api.ErrEntry)
	refuse(inner("a", "c"), "c", inner("e"), api.ErrEntry)
	refuse(inner("a", "c"), "b", inner("e"), api.ErrEntry)
	refuse(inner("a"), "c", inner("c", "d"), api.ErrEntry)
	refuse(inner("a"), "d", inner("c", "d"), api.ErrEntry)
	refuse(inner("c"), "b", inner("a"), api.ErrEntry)
	refuse(inner("c"), "d", inner("c"), api.ErrEntry)
	refuse(bare, "d", inner("c"), api.ErrEntry)
	refuse(bare, "c", inner("c"), api.ErrEntry)
	refuse(inner("c"), "c", bare, api.ErrEntry)
	refuse(inner("c"), "b", bare, api.ErrEntry)
	refuse(inner("c"), "", bare, api.ErrEntry)
}

// TestJoinKeyLength: P9.4: of the key between inner nodes its order is asked alone.
func TestJoinKeyLength(t *testing.T) {
	bare := api.Node{Kids: []int{3}}
	n, e := node.Join(bare, "", inner("c"))
	wantNode(t, "Join, an empty key", n, e, api.Node{Keys: []string{"", "c"}, Kids: []int{3, 1, 2}})
	n, e = node.Join(inner("a"), long(65), bare)
	wantNode(t, "Join, a long key", n, e, api.Node{Keys: []string{"a", long(65)}, Kids: []int{1, 2, 3}})
}

// roomy is a list with room behind its end in which something lies.
func roomy[T any](l []T, behind T) []T {
	return append(append(make([]T, 0, len(l)+4), l...), behind, behind, behind, behind)[:len(l)]
}

// roomyNode is a node whose lists have room behind their ends.
func roomyNode(n api.Node) api.Node {
	n.Keys, n.Values, n.Kids = roomy(n.Keys, "behind"), roomy(n.Values, "behind"), roomy(n.Kids, -7)
	return n
}

// whole is a node's lists with the room behind their ends.
func whole(n api.Node) string {
	return fmt.Sprintf("%q %q %d", n.Keys[:cap(n.Keys)], n.Values[:cap(n.Values)], n.Kids[:cap(n.Kids)])
}

// spoil changes all of a node's lists, and the room behind them.
func spoil(nodes ...api.Node) {
	for _, n := range nodes {
		for _, l := range [][]string{n.Keys, n.Values} {
			l = l[:cap(l)]
			for i := range l {
				l[i] = "spoilt"
			}
		}
		kids := n.Kids[:cap(n.Kids)]
		for i := range kids {
			kids[i] = -99
		}
	}
}

// TestNothingIsShared: R3: no answer shares a list with an argument or another answer, not the room behind it either.
func TestNothingIsShared(t *testing.T) {
	l, in := roomyNode(leaf("a", "1", "b", "2", "c", "3", "d", "4")), roomyNode(inner("a", "b", "c", "d"))
	next, above := roomyNode(leaf("x", "1")), roomyNode(inner("x"))
	wholes := func() string { return whole(l) + whole(in) + whole(next) + whole(above) }
	before := wholes()
	for _, call := range []func() []api.Node{
		func() []api.Node { n, _ := node.Put(l, "bb", "x"); return []api.Node{n} },
		func() []api.Node { n, _ := node.Put(l, "b", "x"); return []api.Node{n} },
		func() []api.Node { n, _ := node.Put(l, "z", "x"); return []api.Node{n} },
		func() []api.Node { n, _ := node.Remove(l, "b"); return []api.Node{n} },
		func() []api.Node { n, _ := node.Remove(l, "d"); return []api.Node{n} },
		func() []api.Node { n, _ := node.Remove(l, "bb"); return []api.Node{n} },
		func() []api.Node { n, _ := node.Remove(in, "b"); return []api.Node{n} },
		func() []api.Node { n, _ := node.Join(l, "", next); return []api.Node{n} },
		func() []api.Node { n, _ := node.Join(l, "", api.Node{Leaf: true}); return []api.Node{n} },
		func() []api.Node { n, _ := node.Join(api.Node{Leaf: true}, "", l); return []api.Node{n} },
		func() []api.Node { n, _ := node.Join(in, "e", above); return []api.Node{n} },
		func() []api.Node { a, _, b, _ := node.Split(l); return []api.Node{a, b} },
		func() []api.Node { a, _, b, _ := node.Split(in); return []api.Node{a, b} },
	} {
		answers := call()
		if len(answers) == 2 {
			told := whole(answers[1])
			spoil(answers[0])
			if whole(answers[1]) != told {
				t.Error("two answers share something", told)
			}
		}
		spoil(answers...)
		if after := wholes(); after != before {
			t.Fatalf("arguments are %s, were %s", after, before)
		}
	}
}
