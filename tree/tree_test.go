package tree_test

import (
	"bytes"
	"fmt"
	"math"
	"slices"
	"strings"
	"testing"

	"dedup/api"
	"dedup/disk"
	"dedup/node"
	"dedup/tree"
)

// long is a text of n bytes.
func long(n int) string {
	return strings.Repeat("x", n)
}

// leaf is a leaf of keys and values in turn.
func leaf(l ...string) api.Node {
	n := api.Node{Leaf: true}
	for i := 0; i < len(l); i += 2 {
		n.Keys = append(n.Keys, l[i])
		n.Values = append(n.Values, l[i+1])
	}
	return n
}

// wideLeaf is a leaf that is big enough (of 512): each key has 60 bytes.
func wideLeaf(keys ...string) api.Node {
	n := api.Node{Leaf: true, Keys: keys}
	for range keys {
		n.Values = append(n.Values, long(60))
	}
	return n
}

// inner is an inner node.
func inner(keys []string, kids ...int) api.Node {
	return api.Node{Keys: keys, Kids: kids}
}

// shelfOf is a shelf with these nodes, in sectors of 512 bytes, from 0 on.
func shelfOf(nodes ...api.Node) *shelf {
	s := newShelf()
	for i, n := range nodes {
		s.lay(512, i, n)
	}
	return s
}

// mustNew is an empty tree.
func mustNew(t *testing.T, size int) *tree.Tree {
	t.Helper()
	x, e := tree.New(size)
	if e != api.OK || x == nil {
		t.Fatal("New", size, e)
	}
	return x
}

// mustOpen is a tree that opens.
func mustOpen(t *testing.T, size, root int, r tree.Reader) *tree.Tree {
	t.Helper()
	x, e := tree.Open(size, root, r)
	if e != api.OK || x == nil {
		t.Fatal("Open", size, root, e)
	}
	return x
}

// mustPut is the tree with a key.
func mustPut(t *testing.T, x *tree.Tree, key, value string) *tree.Tree {
	t.Helper()
	y, e := x.Put(key, value)
	if e != api.OK || y == nil {
		t.Fatalf("Put(%q): error %d", key, e)
	}
	return y
}

// mustDelete is the tree without a key.
func mustDelete(t *testing.T, x *tree.Tree, key string) *tree.Tree {
	t.Helper()
	y, e := x.Delete(key)
	if e != api.OK || y == nil {
		t.Fatalf("Delete(%q): error %d", key, e)
	}
	return y
}

// rising is n sectors from first on.
func rising(first, n int) []int {
	l := make([]int, n)
	for i := range l {
		l[i] = first + i
	}
	return l
}

// mustPlace is the tree with all nodes clean, from a sector on, and what is to be written.
func mustPlace(t *testing.T, x *tree.Tree, first int) (*tree.Tree, []api.Sector) {
	t.Helper()
	y, l, e := x.Place(rising(first, x.Dirty()))
	if e != api.OK || y == nil {
		t.Fatal("Place", e)
	}
	return y, l
}

// pairs is what a scan goes over.
func pairs(x *tree.Tree, from, to string) []api.Pair {
	var l []api.Pair
	for key, value := range x.Scan(from, to) {
		l = append(l, api.Pair{Key: key, Value: value})
	}
	return l
}

// wantGet holds a Get against what it should tell.
func wantGet(t *testing.T, x *tree.Tree, key, value string, there bool, e api.Errno) {
	t.Helper()
	if v, is, err := x.Get(key); v != value || is != there || err != e {
		t.Errorf("Get(%q): %q, %v, error %d; want %q, %v, %d", key, v, is, err, value, there, e)
	}
}

// wantNoTree holds what is told beside an error against what it should be.
func wantNoTree(t *testing.T, what string, x *tree.Tree, e, want api.Errno) {
	t.Helper()
	if x != nil || e != want {
		t.Errorf("%s: a tree: %v, error %d, want %d", what, x != nil, e, want)
	}
}

// TestNew: P11.1: which sizes may be, and what an empty tree is.
func TestNew(t *testing.T) {
	for _, size := range []int{0, 1, -1, -512, 256, 511, 513, 768, 1000, 4095, 4097, 8192, math.MaxInt, math.MinInt} {
		x, e := tree.New(size)
		wantNoTree(t, fmt.Sprint("New ", size), x, e, api.ErrArg)
	}
	for size := 512; size <= 4096; size *= 2 {
		x := mustNew(t, size)
		n, e := x.Count()
		l, e2 := x.Sectors()
		if n != 0 || e != api.OK || len(l) != 0 || e2 != api.OK {
			t.Error("an empty tree:", n, e, l, e2)
		}
		if x.Dirty() != 1 || x.Root() != -1 || x.Height() != 1 || x.Check() != api.OK || len(pairs(x, "", "")) != 0 {
			t.Error("an empty tree:", x.Dirty(), x.Root(), x.Height(), x.Check())
		}
		wantGet(t, x, "a", "", false, api.OK)
		y, l2, e := x.Place([]int{7})
		want, _ := node.Encode(size, api.Node{Leaf: true})
		if e != api.OK || y.Root() != 7 || len(l2) != 1 || l2[0].N != 7 || !bytes.Equal(l2[0].Bytes, want) {
			t.Error("Place of an empty tree:", e, l2)
		}
	}
}

// refuser is a source that does not tell what it should.
type refuser struct {
	b     []byte
	e     api.Errno
	panic bool
}

// Read tells what it was told to tell.
func (r *refuser) Read(n int) ([]byte, api.Errno) {
	if r.panic {
		panic("a source that panics")
	}
	return r.b, r.e
}

// TestOpen: P11.1: wrong arguments ahead of a root that is none; which roots are taken.
func TestOpen(t *testing.T) {
	s := shelfOf(leaf("a", "1"))
	for _, size := range []int{0, 1, -1, -512, 256, 511, 513, 768, 4095, 4097, 8192, math.MaxInt, math.MinInt} {
		for _, root := range []int{0, 1} {
			x, e := tree.Open(size, root, s)
			wantNoTree(t, fmt.Sprint("Open ", size), x, e, api.ErrArg)
		}
	}
	for _, root := range []int{-1, math.MinInt, 1 << 32, math.MaxInt} {
		x, e := tree.Open(512, root, s)
		wantNoTree(t, fmt.Sprint("Open at ", root), x, e, api.ErrArg)
	}
	x, e := tree.Open(512, 0, nil)
	wantNoTree(t, "Open of nothing", x, e, api.ErrArg)
	if len(s.reads) != 0 {
		t.Error("read", s.reads)
	}
	for size := 512; size <= 4096; size *= 2 {
		s := newShelf()
		for _, root := range []int{0, 1, 77, 1<<32 - 1} {
			s.lay(size, root, leaf("a", fmt.Sprint(root)))
			x := mustOpen(t, size, root, s)
			if x.Root() != root || x.Dirty() != 0 || x.Height() != 1 || x.Check() != api.OK {
				t.Error("Open at", root, x.Root(), x.Dirty())
			}
			wantGet(t, x, "a", fmt.Sprint(root), true, api.OK)
		}
	}
}

// TestOpenRefused: P11.1: a root that is refused or no node is ErrTree, whatever the source says.
func TestOpenRefused(t *testing.T) {
	right, _ := node.Encode(512, leaf("a", "1"))
	turned := slices.Clone(right)
	turned[20] ^= 1
	greater, _ := node.Encode(1024, leaf("a", "1"))
	var none *disk.Disk
	for what, r := range map[string]tree.Reader{
		"refused":            &refuser{e: api.ErrSector},
		"refused with bytes": &refuser{b: right, e: api.ErrIO},
		"no bytes":           &refuser{},
		"zeros":              &refuser{b: make([]byte, 512)},
		"a bit turned":       &refuser{b: turned},
		"a byte too few":     &refuser{b: right[:511]},
		"a byte too many":    &refuser{b: append(slices.Clone(right), 0)},
		"another size":       &refuser{b: greater},
		"a panic":            &refuser{panic: true},
		"no disk":            none,
	} {
		x, e := tree.Open(512, 3, r)
		wantNoTree(t, what, x, e, api.ErrTree)
	}
	mustOpen(t, 512, 3, &refuser{b: right})
	d, _ := disk.New(512, 4)
	d.Write(3, right)
	mustOpen(t, 512, 3, d)
	for _, root := range []int{2, 4, 1<<32 - 1} {
		x, e := tree.Open(512, root, d)
		wantNoTree(t, fmt.Sprint("Open at ", root), x, e, api.ErrTree)
	}
}

// TestPutRefused: P11.2: which keys and values may be; what may not be is told ahead of a tree that is broken, and of a leaf that is not reached.
func TestPutRefused(t *testing.T) {
	x := mustPut(t, mustNew(t, 512), "k", "1")
	broken := mustOpen(t, 512, 0, shelfOf(inner([]string{"m"}, 1, 2)))
	for what, c := range map[string]api.Pair{
		"an empty key":       {Key: "", Value: "1"},
		"a key of 65":        {Key: long(65), Value: "1"},
		"a long key":         {Key: long(70000), Value: "1"},
		"a value of 65":      {Key: "k", Value: long(65)},
		"a long value":       {Key: "k", Value: long(70000)},
		"both":               {Key: "", Value: long(65)},
		"a key of 256 + 1":   {Key: long(257), Value: "1"},
		"a value of 256 + 1": {Key: "k", Value: long(257)},
	} {
		for _, x := range []*tree.Tree{x, broken} {
			y, e := x.Put(c.Key, c.Value)
			wantNoTree(t, what, y, e, api.ErrEntry)
		}
	}
	wantGet(t, x, "k", "1", true, api.OK)
	for _, c := range []api.Pair{{Key: "k", Value: ""}, {Key: long(1), Value: long(64)}, {Key: long(64), Value: long(64)}, {Key: "\x00"}, {Key: "\xff\xff"}} {
		y := mustPut(t, x, c.Key, c.Value)
		wantGet(t, y, c.Key, c.Value, true, api.OK)
		z, e := broken.Put(c.Key, c.Value)
		wantNoTree(t, "Put into a broken one", z, e, api.ErrTree)
	}
	for _, key := range []string{"", long(65), long(70000), "j", "l"} {
		wantGet(t, x, key, "", false, api.OK)
		wantGet(t, broken, key, "", false, api.ErrTree)
		if y := mustDelete(t, x, key); y.Dirty() != 1 || len(pairs(y, "", "")) != 1 {
			t.Error("Delete of what is not there")
		}
		y, e := broken.Delete(key)
		wantNoTree(t, "Delete of a broken one", y, e, api.ErrTree)
	}
}

// alphabet is a tree of a to z with values of 60 bytes, and its pairs.
func alphabet(t *testing.T) (*tree.Tree, []api.Pair) {
	x := mustNew(t, 512)
	var l []api.Pair
	for c := 'a'; c <= 'z'; c++ {
		l = append(l, api.Pair{Key: string(c), Value: strings.Repeat(string(c), 60)})
		x = mustPut(t, x, string(c), strings.Repeat(string(c), 60))
	}
	return x, l
}

// TestExample: the chapter's example; and P11.3 of its tree, for all bounds.
func TestExample(t *testing.T) {
	x, l := alphabet(t)
	if n, e := x.Count(); n != 26 || e != api.OK || x.Height() != 2 || x.Root() != -1 || x.Check() != api.OK {
		t.Error("a to z:", n, e, x.Height(), x.Root(), x.Check())
	}
	bounds := []string{"", "\x00", "`", "aa", "mm", "zz", "{", "\xff", long(70)}
	for _, p := range l {
		bounds = append(bounds, p.Key)
	}
	for _, from := range bounds {
		for _, to := range bounds {
			want := slices.DeleteFunc(slices.Clone(l), func(p api.Pair) bool {
				return p.Key < from || to != "" && p.Key >= to
			})
			if got := pairs(x, from, to); !slices.Equal(got, want) {
				t.Errorf("Scan(%q, %q): %v, want %v", from, to, got, want)
			}
		}
	}
	y, _ := mustPlace(t, x, 2)
	if y.Dirty() != 0 || y.Root() != 1+x.Dirty() || y.Height() != 2 {
		t.Error("Place:", y.Dirty(), y.Root())
	}
	if n := mustPut(t, y, "zz", "1").Dirty(); n != 2 && n != 3 {
		t.Error("Put behind Place:", n)
	}
}

// TestScanStops: R5: a scan may be stopped, and begins anew.
func TestScanStops(t *testing.T) {
	x, l := alphabet(t)
	scan := x.Scan("", "")
	for stop := 1; stop <= 26; stop++ {
		n := 0
		for key, value := range scan {
			if l[n] != (api.Pair{Key: key, Value: value}) {
				t.Fatal("Scan", key)
			}
			if n++; n == stop {
				break
			}
		}
		if n != stop {
			t.Error("stopped", n, stop)
		}
	}
}

// TestSame: P11.2, the words: what changes nothing copies nothing.
func TestSame(t *testing.T) {
	x, l := alphabet(t)
	y, _ := mustPlace(t, x, 0)
	for _, p := range l {
		if z := mustPut(t, y, p.Key, p.Value); z.Dirty() != 0 || z.Root() != y.Root() {
			t.Error("the same value of", p.Key, z.Dirty())
		}
		if z := mustDelete(t, y, p.Key+"x"); z.Dirty() != 0 || z.Root() != y.Root() {
			t.Error("no such key", p.Key, z.Dirty())
		}
		if z := mustPut(t, y, p.Key, p.Value[1:]); z.Dirty() == 0 || z.Root() != -1 {
			t.Error("another value of", p.Key)
		}
	}
}

// TestPlaceRefused: P11.4: as many sectors as dirty nodes, each one that may be.
func TestPlaceRefused(t *testing.T) {
	x, _ := alphabet(t)
	y, _ := mustPlace(t, x, 0)
	refuse := func(x *tree.Tree, sectors []int) {
		t.Helper()
		z, l, e := x.Place(sectors)
		if wantNoTree(t, "Place", z, e, api.ErrArg); len(l) != 0 {
			t.Error("Place told", l)
		}
	}
	for n := range 3 * x.Dirty() {
		if n != x.Dirty() {
			refuse(x, rising(0, n))
		}
		if n > 0 {
			refuse(y, rising(0, n))
		}
	}
	for i := range x.Dirty() {
		for _, sector := range []int{-1, math.MinInt, 1 << 32, math.MaxInt} {
			sectors := rising(0, x.Dirty())
			sectors[i] = sector
			refuse(x, sectors)
		}
		sectors := rising(0, x.Dirty())
		sectors[i] = 1<<32 - 1
		if z, l, e := x.Place(sectors); e != api.OK || z.Check() != api.OK || l[i].N != 1<<32-1 {
			t.Error("the last sector:", e)
		}
	}
	if z, l, e := y.Place(nil); e != api.OK || z.Root() != y.Root() || len(l) != 0 {
		t.Error("Place of a clean one:", e, l)
	}
}

// TestPlaceTwice: P11.4, P11.5: sectors need not differ; but then two nodes lie in one.
func TestPlaceTwice(t *testing.T) {
	x, _ := alphabet(t)
	y, l, e := x.Place(make([]int, x.Dirty()))
	if e != api.OK || len(l) != x.Dirty() || y.Dirty() != 0 || y.Root() != 0 {
		t.Fatal("Place into one sector:", e)
	}
	if s, e := y.Sectors(); e != api.OK || !slices.Equal(s, []int{0}) {
		t.Error("Sectors:", s, e)
	}
	if n, e := y.Count(); n != 26 || e != api.OK || y.Check() != api.ErrTree {
		t.Error("Count:", n, e, y.Check())
	}
	sectors := rising(5, x.Dirty())
	sectors[0] = sectors[len(sectors)-1]
	y, _, _ = x.Place(sectors)
	if s, e := y.Sectors(); e != api.OK || !slices.Equal(s, sectors[1:]) || y.Check() != api.ErrTree {
		t.Error("Sectors:", s, e, y.Check())
	}
}

// TestPlaceOrder: P11.4: kids ahead of their parent, from left to right, in the sectors' order; of a tree that is dirty in part those alone.
func TestPlaceOrder(t *testing.T) {
	s := shelfOf(inner([]string{"m"}, 1, 2), wideLeaf("a", "b", "c"), wideLeaf("m", "n", "o"))
	x := mustOpen(t, 512, 0, s)
	y, l, e := mustPut(t, x, "d", "1").Place([]int{9, 4})
	leftLeaf := wideLeaf("a", "b", "c")
	leftLeaf.Keys, leftLeaf.Values = append(leftLeaf.Keys, "d"), append(leftLeaf.Values, "1")
	one, _ := node.Encode(512, leftLeaf)
	two, _ := node.Encode(512, inner([]string{"m"}, 9, 2))
	if e != api.OK || len(l) != 2 || l[0].N != 9 || l[1].N != 4 || !bytes.Equal(l[0].Bytes, one) || !bytes.Equal(l[1].Bytes, two) {
		t.Fatal("Place", e, l)
	}
	if sectors, e := y.Sectors(); e != api.OK || !slices.Equal(sectors, []int{2, 4, 9}) || y.Root() != 4 {
		t.Error("Sectors", sectors, e)
	}
	y, l, e = mustPut(t, mustPut(t, x, "p", "1"), "d", "1").Place([]int{30, 20, 10})
	if e != api.OK || len(l) != 3 || y.Root() != 10 || !bytes.Equal(l[0].Bytes, one) {
		t.Fatal("Place", e, l)
	}
	if n, _ := node.Decode(512, l[2].Bytes); !slices.Equal(n.Kids, []int{30, 20}) {
		t.Error("kids", n.Kids)
	}
}

// TestReads: the words of a source, P11.3: nodes are read when they are wanted first, and not again; kids that lie outside are not read.
func TestReads(t *testing.T) {
	s := shelfOf(inner([]string{"h", "m"}, 1, 2, 3), wideLeaf("a", "b", "c"), wideLeaf("h", "i", "j"), wideLeaf("m", "n", "o"))
	read := func(what string, want ...int) {
		t.Helper()
		all := 0
		for _, n := range want {
			if all++; s.reads[n] != 1 {
				t.Error(what, "sector", n, "was read", s.reads[n])
			}
		}
		if len(s.reads) != all {
			t.Error(what, "read", s.reads)
		}
		s.reads = map[int]int{}
	}
	x := mustOpen(t, 512, 0, s)
	read("Open", 0)
	pairs(x, "h", "m")
	read("Scan", 2)
	pairs(x, "i", "m")
	read("Scan again")
	pairs(x, "m\x00", "")
	read("Scan of the last", 3)
	x.Get("a")
	x.Get("b")
	read("Get", 1)
	x.Check()
	x.Count()
	x.Sectors()
	x.Height()
	pairs(x, "", "")
	read("all again")
	for _, c := range []struct {
		from, to string
		reads    []int
	}{
		{"", "h", []int{1}},
		{"", "h\x00", []int{1, 2}},
		{"g\xff", "h", []int{1}},
		{"h", "", []int{2, 3}},
		{"g\xff", "", []int{1, 2, 3}},
		{"l", "m", []int{2}},
		{"l", "n", []int{2, 3}},
		{"m", "h", nil},
		{"z", "a", nil},
		{"i", "i", []int{2}},
	} {
		x := mustOpen(t, 512, 0, s)
		s.reads = map[int]int{}
		pairs(x, c.from, c.to)
		read(fmt.Sprintf("Scan(%q, %q)", c.from, c.to), c.reads...)
	}
	x = mustOpen(t, 512, 0, s)
	s.reads = map[int]int{}
	if x.Height() != 2 {
		t.Error("Height")
	}
	read("Height", 1)
	y := mustPut(t, x, "n", "1")
	read("Put", 3)
	y.Get("n")
	x.Get("n")
	x.Get("m")
	read("Get of what trees share")
}

// TestNone: P11.5: of a Tree that no call gave.
func TestNone(t *testing.T) {
	for _, x := range []*tree.Tree{nil, {}} {
		wantGet(t, x, "a", "", false, api.ErrClosed)
		y, e := x.Put("a", "1")
		wantNoTree(t, "Put", y, e, api.ErrClosed)
		y, e = x.Put("", long(70))
		wantNoTree(t, "Put", y, e, api.ErrClosed)
		y, e = x.Delete("a")
		wantNoTree(t, "Delete", y, e, api.ErrClosed)
		y, l, e := x.Place(nil)
		if wantNoTree(t, "Place", y, e, api.ErrClosed); len(l) != 0 {
			t.Error("Place", l)
		}
		y, l, e = x.Place([]int{-1, 5})
		if wantNoTree(t, "Place", y, e, api.ErrClosed); len(l) != 0 {
			t.Error("Place", l)
		}
		n, e := x.Count()
		s, e2 := x.Sectors()
		if n != 0 || e != api.ErrClosed || len(s) != 0 || e2 != api.ErrClosed {
			t.Error("Count, Sectors", n, e, s, e2)
		}
		if x.Root() != -1 || x.Dirty() != 0 || x.Height() != 0 || x.Check() != api.ErrClosed || len(pairs(x, "", "")) != 0 {
			t.Error("none:", x.Root(), x.Dirty(), x.Height(), x.Check())
		}
	}
}

// TestShared: R3: sectors that are handed in stay, and are not kept; what is answered is new memory.
func TestShared(t *testing.T) {
	x, want := alphabet(t)
	room := append(rising(0, x.Dirty()), 77)
	sectors := room[:x.Dirty()]
	y, l, _ := x.Place(sectors)
	if !slices.Equal(room, append(rising(0, x.Dirty()), 77)) {
		t.Error("Place changed", room)
	}
	for i := range sectors {
		sectors[i] = 9
	}
	_, again, _ := x.Place(rising(0, x.Dirty()))
	s := newShelf()
	for i, p := range l {
		s.sectors[p.N] = slices.Clone(p.Bytes)
		if !bytes.Equal(p.Bytes, again[i].Bytes) {
			t.Error("Place again tells other bytes")
		}
		clear(p.Bytes[:cap(p.Bytes)])
	}
	got, _ := y.Sectors()
	for i := range got {
		got[i] = -5
	}
	got, _ = y.Sectors()
	if !slices.Equal(got, rising(0, x.Dirty())) || !slices.Equal(pairs(y, "", ""), want) || y.Root() != x.Dirty()-1 {
		t.Error("a placed tree changed", got)
	}
	if z := mustOpen(t, 512, y.Root(), s); !slices.Equal(pairs(z, "", ""), want) {
		t.Error("an opened tree changed")
	}
	kept := mustOpen(t, 512, 5, &refuser{b: s.sectors[y.Root()]})
	clear(s.sectors[y.Root()])
	if kept.Root() != 5 || kept.Dirty() != 0 {
		t.Error("Root", kept.Root())
	}
	if _, _, e := kept.Get("a"); e != api.ErrTree {
		t.Error("Get of a source of zeros:", e)
	}
}
