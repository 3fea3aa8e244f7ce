package tree_test

import (
	"fmt"
	"slices"
	"testing"

	"dedup/api"
	"dedup/node"
	"dedup/tree"
)

// TestInPlace: the words of a node's place, P11.2, P11.3, P11.5: each bound, of leaves and of inner nodes.
func TestInPlace(t *testing.T) {
	keys := func(n api.Node, l ...string) api.Node {
		n.Keys = l
		return n
	}
	some := wideLeaf("c", "d", "e")
	low := inner([]string{"c"}, 6, 7) // an inner node below f
	for what, c := range map[string]struct {
		kid   api.Node // the second one of three, from f on and below m
		wrong bool
	}{
		"a leaf":                       {keys(some, "f", "g", "lz"), false},
		"a leaf behind the bound":      {keys(some, "g", "h", "i"), false},
		"a leaf's first key too low":   {keys(some, "ez", "g", "h"), true},
		"a leaf's last key is the end": {keys(some, "f", "g", "m"), true},
		"a leaf's last key too high":   {keys(some, "f", "g", "n"), true},
		"a leaf elsewhere":             {keys(some, "a", "b", "c"), true},
		"an empty leaf":                {api.Node{Leaf: true}, false},
		"an inner node":                {keys(low, "g"), false},
		"an inner node at the bound":   {keys(low, "f"), true},
		"an inner node just above it":  {keys(low, "f\x00"), false},
		"an inner node too low":        {keys(low, "e"), true},
		"an inner node at the end":     {keys(low, "m"), true},
		"an inner node just below it":  {keys(low, "lz"), false},
		"an inner node too high":       {keys(low, "n"), true},
	} {
		first, last := wideLeaf("a", "b", "c"), wideLeaf("m", "n", "o")
		s := shelfOf(inner([]string{"f", "m"}, 1, 2, 3), first, c.kid, last)
		s.lay(512, 6, api.Node{Leaf: true})
		s.lay(512, 7, api.Node{Leaf: true})
		x := mustOpen(t, 512, 0, s)
		e := api.OK
		if c.wrong {
			e = api.ErrTree
		}
		if _, _, got := x.Get("g"); got != e {
			t.Error(what, "Get", got)
		}
		if _, got := x.Put("gg", "1"); c.kid.Leaf && len(c.kid.Keys) > 0 && got != e {
			t.Error(what, "Put", got)
		}
		if _, got := x.Delete("zz"); got != api.OK {
			t.Error(what, "Delete elsewhere", got)
		}
		if _, got := x.Count(); got != e {
			t.Error(what, "Count", got)
		}
		if _, got := x.Sectors(); got != e {
			t.Error(what, "Sectors", got)
		}
		if x.Height() != 2 {
			t.Error(what, "Height", x.Height())
		}
		if c.wrong && x.Check() != api.ErrTree {
			t.Error(what, "Check", x.Check())
		}
		if got := len(pairs(x, "", "")); c.wrong && got != 3 || !c.wrong && got != 6+len(c.kid.Values) {
			t.Error(what, "Scan", got)
		}
		if got := pairs(x, "n", ""); len(got) != 2 {
			t.Error(what, "Scan elsewhere", got)
		}
	}
}

// TestFirst: P11.3: the height is that of the first leaf, 0 if the way to it is broken; nodes elsewhere play no part.
func TestFirst(t *testing.T) {
	whole := []api.Node{
		inner([]string{"m"}, 1, 2), inner([]string{"f"}, 3, 4), inner([]string{"s"}, 5, 6),
		wideLeaf("a", "b"), wideLeaf("f", "g"), wideLeaf("m", "n"), wideLeaf("s", "t"),
	}
	for gone := range whole {
		s := shelfOf(whole...)
		x := mustOpen(t, 512, 0, s)
		delete(s.sectors, gone)
		height, keys := 3, map[int]int{0: 8, 1: 0, 2: 4, 3: 0, 4: 2, 5: 4, 6: 6}[gone]
		if gone == 1 || gone == 3 {
			height = 0
		}
		if x.Height() != height {
			t.Error("without", gone, "Height", x.Height())
		}
		if got := len(pairs(x, "", "")); got != keys {
			t.Error("without", gone, "Scan", got)
		}
		if got := len(pairs(x, "", "g")); gone > 4 && got != 3 {
			t.Error("without", gone, "Scan of the first ones", got)
		}
		n, e := x.Count()
		if gone > 0 && (n != 0 || e != api.ErrTree) || gone == 0 && (n != 8 || e != api.OK) {
			t.Error("without", gone, "Count", n, e)
		}
		s.write(laidOf(whole)) // a node that could not be read is read when it can be
		if n, e := x.Count(); n != 8 || e != api.OK || x.Height() != 3 {
			t.Error("with", gone, "again: Count", n, e)
		}
	}
}

// laidOf is nodes as sectors, from 0 on.
func laidOf(nodes []api.Node) []api.Sector {
	var l []api.Sector
	for i, n := range nodes {
		b, _ := node.Encode(512, n)
		l = append(l, api.Sector{N: i, Bytes: b})
	}
	return l
}

// TestCheck: P11.5: each fault alone, and the edge of what is big enough.
func TestCheck(t *testing.T) {
	sized := func(size int) api.Node { // a leaf of that Size, whose keys are s and t
		n := leaf("s", long(50), "t", "")
		n.Values[1] = long(size - node.Size(n))
		return n
	}
	first := wideLeaf("a", "b", "c")
	high := []api.Node{wideInner("n", "p", 3), wideLeaf("m", "mm"), wideLeaf("o", "oo"), wideLeaf("q", "r")} // from 2 on
	low := []api.Node{wideInner("a", "c", 7), wideLeaf("a", "aa"), wideLeaf("b", "bb"), wideLeaf("d", "e")}  // from 6 on
	for what, c := range map[string]struct {
		nodes []api.Node
		want  api.Errno
	}{
		"a leaf alone":                {[]api.Node{leaf("a", "1")}, api.OK},
		"two leaves":                  {[]api.Node{inner([]string{"m"}, 1, 2), first, sized(129)}, api.OK},
		"just big enough":             {[]api.Node{inner([]string{"m"}, 1, 2), first, sized(128)}, api.OK},
		"a byte too few":              {[]api.Node{inner([]string{"m"}, 1, 2), first, sized(127)}, api.ErrTree},
		"an empty leaf":               {[]api.Node{inner([]string{"m"}, 1, 2), first, {Leaf: true}}, api.ErrTree},
		"an empty leaf twice":         {[]api.Node{inner([]string{"m"}, 1, 1), {Leaf: true}}, api.ErrTree},
		"no such sector":              {[]api.Node{inner([]string{"m"}, 1, 2), first}, api.ErrTree},
		"the root below it":           {[]api.Node{inner([]string{"m"}, 1, 0), first}, api.ErrTree},
		"a leaf twice":                {[]api.Node{inner([]string{"m"}, 1, 1), first}, api.ErrTree},
		"leaves not equally deep":     {append([]api.Node{inner([]string{"m"}, 1, 2), first}, high...), api.ErrTree},
		"the first leaf lies deeper":  {append([]api.Node{inner([]string{"m"}, 6, 1), wideLeaf("m", "n", "o"), first, first, first, first}, low...), api.ErrTree},
		"all leaves equally deep":     {slices.Concat([]api.Node{inner([]string{"m"}, 6, 2), first}, high, low), api.OK},
		"an inner node that is small": {[]api.Node{inner([]string{"m"}, 1, 2), inner([]string{"c"}, 3, 4), inner([]string{"s"}, 5, 6), wideLeaf("a", "b"), wideLeaf("c", "d"), wideLeaf("m", "n"), wideLeaf("s", "t")}, api.ErrTree},
	} {
		s := shelfOf(c.nodes...)
		x := mustOpen(t, 512, 0, s)
		if got := x.Check(); got != c.want {
			t.Error(what, "Check", got, "want", c.want)
		}
		if got := plainOpen(512, 0, s).check(); got != c.want {
			t.Error(what, "by the words", got, "want", c.want)
		}
	}
}

// wideInner is an inner node that is big enough (of 512): two long keys that begin so, and the kids from first on.
func wideInner(a, b string, first int) api.Node {
	return inner([]string{a + long(60), b + long(60)}, first, first+1, first+2)
}

// TestJoinRefused: P11.2: the kid that must be joined is not in its place, or is no leaf beside a leaf; where nothing must be joined it plays no part.
func TestJoinRefused(t *testing.T) {
	a, m := wideLeaf("a", "b"), wideLeaf("m", "n")
	for what, c := range map[string]struct {
		left, right api.Node
		key         string // that is deleted
	}{
		"no node to the right":    {a, api.Node{}, "a"},
		"no node to the left":     {api.Node{}, m, "m"},
		"keys too low":            {a, wideLeaf("l", "n"), "a"},
		"keys too high":           {wideLeaf("a", "m"), m, "m"},
		"an inner node":           {a, inner([]string{"n"}, 7, 8), "a"},
		"an inner node ahead":     {inner([]string{"c"}, 7, 8), m, "m"},
		"an inner node elsewhere": {a, inner([]string{"m"}, 7, 8), "a"},
	} {
		s := newShelf()
		s.lay(512, 0, inner([]string{"m"}, 1, 2))
		for i, n := range []api.Node{c.left, c.right} {
			if len(n.Keys) > 0 {
				s.lay(512, 1+i, n)
			}
		}
		x := mustOpen(t, 512, 0, s)
		y, e := x.Delete(c.key)
		wantNoTree(t, what, y, e, api.ErrTree)
		y, e = x.Put(c.key, "1")
		wantNoTree(t, what+", a short value", y, e, api.ErrTree)
		if y := mustPut(t, x, c.key+"x", long(60)); y.Dirty() != 2 {
			t.Error(what, "Put of more:", y.Dirty())
		}
		if x.Dirty() != 0 || x.Root() != 0 {
			t.Error(what, "the tree changed")
		}
	}
}

// TestJoinSide: the words: a small node is joined with the kid to the right of it, the last one with that to the left; by a put, too.
func TestJoinSide(t *testing.T) {
	s := shelfOf(inner([]string{"h", "m"}, 1, 2, 3), wideLeaf("a", "b"), wideLeaf("h", "i"), wideLeaf("m", "n"))
	for _, c := range []struct {
		key  string
		keys []string // of the root
		kids []int    // that stay clean
	}{
		{"a", []string{"m"}, []int{3}},
		{"h", []string{"h"}, []int{1}},
		{"m", []string{"h"}, []int{1}},
	} {
		x := mustOpen(t, 512, 0, s)
		for _, y := range []*tree.Tree{mustDelete(t, x, c.key), mustPut(t, x, c.key, "1")} {
			_, l := mustPlace(t, y, 10)
			root, _ := node.Decode(512, l[len(l)-1].Bytes)
			clean := slices.DeleteFunc(slices.Clone(root.Kids), func(kid int) bool { return kid >= 10 })
			if len(l) != 2 || !slices.Equal(root.Keys, c.keys) || !slices.Equal(clean, c.kids) {
				t.Error("a change of", c.key, "root", root, "of", len(l))
			}
		}
	}
}

// TestJoinSplit: the words: what was joined and does not fit is split again; and a root without a key gives way.
func TestJoinSplit(t *testing.T) {
	full := wideLeaf("m", "n", "o", "p", "q", "r", "s")
	x := mustOpen(t, 512, 0, shelfOf(inner([]string{"m"}, 1, 2), wideLeaf("a", "b"), full))
	y := mustDelete(t, x, "a")
	if y.Dirty() != 3 || y.Height() != 2 || y.Check() != api.OK {
		t.Error("joined and split:", y.Dirty(), y.Height(), y.Check())
	}
	_, l := mustPlace(t, y, 10)
	left, _ := node.Decode(512, l[0].Bytes)
	root, _ := node.Decode(512, l[2].Bytes)
	if !slices.Equal(left.Keys, []string{"b", "m", "n", "o"}) || !slices.Equal(root.Keys, []string{"p"}) {
		t.Error("joined and split:", left.Keys, root.Keys)
	}
	x = mustOpen(t, 512, 0, shelfOf(inner([]string{"m"}, 1, 2), wideLeaf("a", "b"), wideLeaf("m", "n")))
	if y := mustDelete(t, x, "n"); y.Dirty() != 1 || y.Height() != 1 || y.Root() != -1 || x.Height() != 2 {
		t.Error("a root that gives way:", y.Dirty(), y.Height())
	}
}

// chain is a source without end of inner nodes: below each of them lie an empty leaf and the next one.
type chain struct {
	depth int
}

// Read tells a node: the leaf 0, or an inner one whose number is how deep it lies.
func (c chain) Read(n int) ([]byte, api.Errno) {
	x := api.Node{Leaf: true}
	if n > 0 && n < c.depth {
		x = inner([]string{fmt.Sprintf("%09d", n)}, 0, n+1)
	}
	return node.Encode(512, x)
}

// TestDeep: R1: trees of any depth are gone through, and cycles end.
func TestDeep(t *testing.T) {
	x := mustOpen(t, 512, 1, chain{30000})
	wantGet(t, x, "999999999", "", false, api.OK)
	if n, e := x.Count(); n != 0 || e != api.OK || x.Height() != 2 || x.Check() != api.ErrTree {
		t.Error("a chain:", n, e, x.Height(), x.Check())
	}
	if y, e := x.Put("999999999", long(64)); y != nil || e != api.ErrTree {
		t.Error("Put into the last leaf, which must be joined:", e)
	}
	if y, e := x.Put("0", long(64)); y != nil || e != api.ErrTree {
		t.Error("Put into the first leaf, which must be joined:", e)
	}
	for _, nodes := range [][]api.Node{
		{inner([]string{"m"}, 0, 0)},
		{inner([]string{"m"}, 1, 1), inner([]string{"c"}, 0, 0)},
		{inner([]string{"m"}, 1, 2), inner([]string{"c"}, 2, 1), inner([]string{"p"}, 1, 0)},
	} {
		x := mustOpen(t, 512, 0, shelfOf(nodes...))
		for _, key := range []string{"a", "d", "n", "z"} {
			wantGet(t, x, key, "", false, api.ErrTree)
			y, e := x.Put(key, "1")
			wantNoTree(t, "a cycle", y, e, api.ErrTree)
		}
		if n, e := x.Count(); n != 0 || e != api.ErrTree || x.Height() != 0 || x.Check() != api.ErrTree || len(pairs(x, "", "")) != 0 {
			t.Error("a cycle:", n, e, x.Height(), x.Check())
		}
	}
}
