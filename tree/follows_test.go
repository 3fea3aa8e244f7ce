package tree_test

import (
	"bytes"
	"fmt"
	"maps"
	"math/rand"
	"slices"
	"strings"
	"testing"

	"dedup/api"
	"dedup/disk"
	"dedup/node"
	"dedup/tree"
)

// wantSectors holds what is to be written against what it should be.
func wantSectors(t *testing.T, what string, got, want []api.Sector) {
	t.Helper()
	same := slices.EqualFunc(got, want, func(a, b api.Sector) bool {
		return a.N == b.N && bytes.Equal(a.Bytes, b.Bytes)
	})
	if !same {
		t.Fatalf("%s: %d sectors, want %d, or others", what, len(got), len(want))
	}
}

// wantNodes holds a tree against a plain one, node for node: both lie down in the same sectors.
func wantNodes(t *testing.T, what string, x *tree.Tree, p plain) {
	t.Helper()
	dirty := p.dirtyOf(p.root)
	if x.Dirty() != len(dirty) || x.Root() != max(p.root, -1) {
		t.Fatal(what, "Dirty", x.Dirty(), "Root", x.Root(), "want", len(dirty), p.root)
	}
	sectors := rising(1<<20, len(dirty))
	y, got, e := x.Place(sectors)
	q, want := p.place(sectors)
	if e != api.OK || y.Root() != q.root || y.Dirty() != 0 {
		t.Fatal(what, "Place", e, y.Root(), q.root)
	}
	wantSectors(t, what, got, want)
}

// wantPlain holds all that a tree tells against a plain one.
func wantPlain(t *testing.T, what string, x *tree.Tree, p plain) {
	t.Helper()
	f := p.over()
	count, sectors := len(f.pairs), slices.Compact(slices.Sorted(slices.Values(f.sectors)))
	if f.e != api.OK {
		count, sectors = 0, nil
	}
	if got := pairs(x, "", ""); !slices.Equal(got, f.pairs) {
		t.Fatal(what, "Scan", len(got), "want", len(f.pairs))
	}
	if n, e := x.Count(); n != count || e != f.e {
		t.Fatal(what, "Count", n, e, "want", count, f.e)
	}
	if l, e := x.Sectors(); !slices.Equal(l, sectors) || e != f.e {
		t.Fatal(what, "Sectors", l, e, "want", sectors, f.e)
	}
	if got, want := x.Height(), p.height(); got != want {
		t.Fatal(what, "Height", got, "want", want)
	}
	if got, want := x.Check(), p.check(); got != want {
		t.Fatal(what, "Check", got, "want", want)
	}
	wantNodes(t, what, x, p)
}

// world is a tree, a plain one and a map that are to tell the same, and how their keys and values are chosen.
type world struct {
	x          *tree.Tree
	p          plain
	m          map[string]string
	longKey    int
	longValue  int
	next       int // sector that is free
	grow, many int // of a hundred changes so many are puts; about so many keys
}

// someWorld is an empty tree, by chance.
func someWorld(t *testing.T, r *rand.Rand) *world {
	size := 512 << max(r.Intn(6)-2, 0)
	return &world{
		x: mustNew(t, size), p: plainNew(size), m: map[string]string{},
		longKey: someLength(r, 1, 64), longValue: someLength(r, 0, 64), grow: 90, many: 20 + r.Intn(500),
	}
}

// key is a key that is there, or some key.
func (w *world) key(r *rand.Rand) string {
	if len(w.m) > 0 && r.Intn(2) == 0 {
		keys := pairs(w.x, someText(r, 0, w.longKey), "")
		if len(keys) > 0 {
			return keys[0].Key
		}
	}
	if r.Intn(2) == 0 {
		return someText(r, w.longKey, w.longKey)
	}
	return someText(r, 1, w.longKey)
}

// change puts or deletes a key in all of them.
func (w *world) change(t *testing.T, r *rand.Rand) {
	t.Helper()
	key, value, gone := w.key(r), someText(r, 0, w.longValue), r.Intn(100) >= w.grow
	height, clean := w.x.Height(), w.x.Dirty() == 0
	var e api.Errno
	if gone {
		w.x, e = w.x.Delete(key)
		delete(w.m, key)
	} else {
		w.x, e = w.x.Put(key, value)
		w.m[key] = value
	}
	if e != api.OK {
		t.Fatalf("a change of %q: error %d", key, e)
	}
	if w.p, e = w.p.change(key, value, gone); e != api.OK {
		t.Fatalf("a plain change of %q: error %d", key, e)
	}
	if most := 2*min(height, w.x.Height()) + 1; clean && w.x.Dirty() > most {
		t.Fatal("dirty nodes:", w.x.Dirty(), "at most", most)
	}
	if len(w.m) > w.many {
		w.grow = 15
	} else if len(w.m) < w.many/8 {
		w.grow = 85
	}
}

// place lays all nodes down; then the tree goes on as it is, or is opened anew.
func (w *world) place(t *testing.T, anew bool) {
	t.Helper()
	sectors := rising(w.next, w.x.Dirty())
	w.next += len(sectors)
	x, l, e := w.x.Place(sectors)
	if e != api.OK {
		t.Fatal("Place", e)
	}
	q, want := w.p.place(sectors)
	wantSectors(t, "Place", l, want)
	w.p.on.write(l)
	w.x, w.p = x, q
	if anew {
		w.x = mustOpen(t, w.p.size, x.Root(), w.p.on)
	}
}

// sorted is a map's pairs.
func sorted(m map[string]string) []api.Pair {
	var l []api.Pair
	for _, key := range slices.Sorted(maps.Keys(m)) {
		l = append(l, api.Pair{Key: key, Value: m[key]})
	}
	return l
}

// TestMap: P11.6, P11.8, P11.9, and P11.2 to P11.4 on the way: a tree is a map, node for node the tree of the words, laid down and opened or not; Check is OK all the time.
func TestMap(t *testing.T) {
	r := rand.New(rand.NewSource(116))
	deepest := 0
	for range 40 {
		w := someWorld(t, r)
		often := 1 + r.Intn(40)
		for i := range 700 {
			w.change(t, r)
			deepest = max(deepest, w.x.Height())
			if i%5 == 0 && w.x.Check() != api.OK {
				t.Fatal("Check", w.x.Check())
			}
			wantNodes(t, "a change", w.x, w.p)
			if i%50 == 0 {
				wantPlain(t, "all", w.x, w.p)
				if got := pairs(w.x, "", ""); !slices.Equal(got, sorted(w.m)) {
					t.Fatal("a map has", len(w.m), "the tree", len(got))
				}
			}
			if r.Intn(often) == 0 {
				w.place(t, r.Intn(2) == 0)
			}
			key := w.key(r)
			value, there := w.m[key]
			wantGet(t, w.x, key, value, there, api.OK)
		}
	}
	if deepest < 4 {
		t.Error("the deepest tree has", deepest)
	}
}

// TestGone: P11.6: trees that grow and are emptied again, key by key, from either end and by chance.
func TestGone(t *testing.T) {
	r := rand.New(rand.NewSource(117))
	for _, size := range []int{512, 1024, 4096} {
		for way := range 3 {
			x, p := mustNew(t, size), plainNew(size)
			var keys []string
			for i := range 300 * size / 512 {
				keys = append(keys, fmt.Sprintf("%06d%s", i, long(r.Intn(58))))
			}
			r.Shuffle(len(keys), func(i, j int) { keys[i], keys[j] = keys[j], keys[i] })
			for _, key := range keys {
				x = mustPut(t, x, key, someText(r, 0, 64))
			}
			if x.Height() < 2 || x.Check() != api.OK {
				t.Error("grown:", x.Height(), x.Check())
			}
			switch way {
			case 0:
				slices.Sort(keys)
			case 1:
				slices.SortFunc(keys, func(a, b string) int { return strings.Compare(b, a) })
			}
			for i, key := range keys {
				x = mustDelete(t, x, key)
				if n, e := x.Count(); i%10 == 0 && (n != len(keys)-1-i || e != api.OK || x.Check() != api.OK) {
					t.Fatal("deleted", i, "left", n, e, x.Check())
				}
			}
			wantNodes(t, "emptied", x, p)
		}
	}
}

// old is a tree and what it told.
type old struct {
	x     *tree.Tree
	pairs []api.Pair
	laid  []api.Sector
	root  int
}

// TestSnapshots: P11.7: old trees tell what they told, whatever was made of them.
func TestSnapshots(t *testing.T) {
	r := rand.New(rand.NewSource(118))
	for range 15 {
		w := someWorld(t, r)
		var olds []old
		for range 300 {
			w.change(t, r)
			if r.Intn(10) == 0 {
				_, laid, _ := w.x.Place(rising(5, w.x.Dirty()))
				olds = append(olds, old{w.x, sorted(w.m), laid, w.x.Root()})
			}
			if r.Intn(20) == 0 {
				w.place(t, r.Intn(2) == 0)
			}
		}
		for _, o := range olds {
			_, laid, e := o.x.Place(rising(5, o.x.Dirty()))
			if e != api.OK || o.x.Root() != o.root || o.x.Check() != api.OK || !slices.Equal(pairs(o.x, "", ""), o.pairs) {
				t.Fatal("an old tree", e, o.x.Check())
			}
			wantSectors(t, "an old tree", laid, o.laid)
		}
	}
}

// TestThereAndBack: P11.8: on a disk: what was placed, written and opened tells the same, and so does each change of it.
func TestThereAndBack(t *testing.T) {
	r := rand.New(rand.NewSource(119))
	for range 20 {
		w := someWorld(t, r)
		for range 200 {
			w.change(t, r)
		}
		d, _ := disk.New(w.p.size, 4096)
		placed, l := mustPlace(t, w.x, 3)
		for _, s := range l {
			if e := d.Write(s.N, s.Bytes); e != api.OK {
				t.Fatal("Write", e)
			}
		}
		opened := mustOpen(t, w.p.size, placed.Root(), d)
		for i := range 30 {
			a, b := placed, opened
			for range 1 + r.Intn(5) {
				key, value := w.key(r), someText(r, 0, 64)
				if r.Intn(2) == 0 {
					a, b = mustPut(t, a, key, value), mustPut(t, b, key, value)
				} else {
					a, b = mustDelete(t, a, key), mustDelete(t, b, key)
				}
			}
			_, one := mustPlace(t, a, 2000)
			_, two := mustPlace(t, b, 2000)
			wantSectors(t, fmt.Sprint("change ", i), one, two)
			if a.Dirty() != b.Dirty() || a.Root() != b.Root() || !slices.Equal(pairs(a, "", ""), pairs(b, "", "")) {
				t.Fatal("other trees", a.Dirty(), b.Dirty())
			}
		}
		if !slices.Equal(pairs(opened, "", ""), sorted(w.m)) || !slices.Equal(pairs(placed, "", ""), sorted(w.m)) {
			t.Fatal("other keys")
		}
	}
}

// spoil does something to a tree's nodes: one of them is another one then, or none.
func spoil(r *rand.Rand, size int, on *shelf) {
	all := slices.Sorted(maps.Keys(on.sectors))
	n, other := all[r.Intn(len(all))], all[r.Intn(len(all))]
	x, e := node.Decode(size, on.sectors[n])
	if e != api.OK {
		return
	}
	switch r.Intn(6) {
	case 0:
		on.sectors[n] = nil
	case 1:
		on.sectors[n][r.Intn(40)] ^= 1 << r.Intn(8)
	case 2:
		on.sectors[n], on.sectors[other] = on.sectors[other], on.sectors[n]
	case 3:
		on.lay(size, n, api.Node{Leaf: true})
	default:
		if len(x.Keys) > 0 {
			on.spoilKey(r, size, n, other, x)
		}
	}
}

// spoilKey lets a node have another key or kid, or fewer of them, or lie deeper.
func (s *shelf) spoilKey(r *rand.Rand, size, n, other int, x api.Node) {
	at := r.Intn(len(x.Keys))
	switch {
	case r.Intn(3) == 0:
		x.Keys[at] = someText(r, 1, 3)
	case r.Intn(3) == 0 && at > 0:
		x.Keys[at] = x.Keys[at-1] + "a"
	case !x.Leaf && r.Intn(2) == 0:
		x.Kids[at] = other
	case !x.Leaf:
		x.Keys, x.Kids = x.Keys[:at+1], x.Kids[:at+2]
	case r.Intn(2) == 0:
		x.Keys, x.Values = x.Keys[:at], x.Values[:at]
	default:
		s.lay(size, 5000, api.Node{Leaf: true, Keys: x.Keys[:at], Values: x.Values[:at]})
		s.lay(size, 5001, api.Node{Leaf: true, Keys: x.Keys[at:], Values: x.Values[at:]})
		x = api.Node{Keys: x.Keys[at : at+1], Kids: []int{5000, 5001}}
	}
	if b, e := node.Encode(size, x); e == api.OK {
		s.sectors[n] = b
	}
}

// TestSpoilt: P11.2, P11.3, P11.5, R1: trees of which some nodes are not in their place, or are small, or not equally deep: all that they tell, and what changes of them are refused, is as the words have it.
func TestSpoilt(t *testing.T) {
	r := rand.New(rand.NewSource(120))
	told := map[api.Errno]int{}
	for range 500 {
		w := someWorld(t, r)
		w.x, w.p, w.many = mustNew(t, 512), plainNew(512), 20+r.Intn(100)
		for range 150 {
			w.change(t, r)
		}
		w.place(t, false)
		on, root := w.p.on.copied(), w.p.root
		for range 1 + r.Intn(3) {
			spoil(r, 512, on)
		}
		p := plainOpen(512, root, on)
		x, e := tree.Open(512, root, on)
		if _, ok := p.node(root, "", ""); !ok {
			wantNoTree(t, "Open", x, e, api.ErrTree)
			continue
		}
		for i := range 40 {
			key, value, gone := w.key(r), someText(r, 0, w.longValue), r.Intn(2) == 0
			v, there, e := p.get(key)
			wantGet(t, x, key, v, there, e)
			y, got := x.Put(key, value)
			if gone {
				y, got = x.Delete(key)
			}
			q, want := p.change(key, value, gone)
			if told[want]++; got != want || (y == nil) != (want != api.OK) {
				t.Fatal("a change", got, "want", want)
			}
			if want == api.OK {
				x, p = y, q
			}
			if i%8 == 0 {
				wantPlain(t, "spoilt", x, p)
			}
		}
		if told[p.check()+1000]++; x.Check() != p.check() {
			t.Fatal("Check", x.Check())
		}
	}
	if told[api.OK] < 1000 || told[api.ErrTree] < 1000 || told[api.OK+1000] < 50 || told[api.ErrTree+1000] < 50 {
		t.Error("too few of a kind:", told)
	}
}
