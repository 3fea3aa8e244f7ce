package vol_test

import (
	"bytes"
	"fmt"
	"maps"
	"slices"
	"testing"

	"dedup/api"
	"dedup/chunk"
	"dedup/disk"
	"dedup/layout"
	"dedup/name"
	"dedup/tree"
	"dedup/vol"
)

// someShape is a small volume's.
func someShape() api.Shape {
	return api.Shape{Sector: 512, Sectors: 64, Journal: 4, Pack: 2, Cut: api.Cut{Min: 8, Normal: 16, Max: 64}, Bits: 256, Dedup: true}
}

// format is a new volume.
func format(t *testing.T, s api.Shape) *vol.Vol {
	t.Helper()
	v, e := vol.Format(s)
	if e != api.OK {
		t.Fatal("Format", s, e)
	}
	return v
}

// open is a volume as it lies on a disk.
func open(t *testing.T, d *disk.Disk) *vol.Vol {
	t.Helper()
	v, e := vol.Open(d)
	if e != api.OK {
		t.Fatal("Open", e)
	}
	return v
}

// put gives a key of a book's tree a value.
func put(b *chunk.Book, key, value string) {
	u, e := b.Tree().Put(key, value)
	if e != api.OK {
		panic(fmt.Sprint("Put ", key, e))
	}
	b.Set(u)
}

// remove takes a key from a book's tree.
func remove(b *chunk.Book, key string) {
	u, e := b.Tree().Delete(key)
	if e != api.OK {
		panic(fmt.Sprint("Delete ", key, e))
	}
	b.Set(u)
}

// commit is a transaction with these changes: what Commit tells.
func commit(v *vol.Vol, changes func(b *chunk.Book)) api.Errno {
	x := v.Begin()
	changes(x.Book())
	return v.Commit(x)
}

// mustCommit is a transaction with these changes, which is not refused.
func mustCommit(t *testing.T, v *vol.Vol, changes func(b *chunk.Book)) {
	t.Helper()
	if e := commit(v, changes); e != api.OK {
		t.Fatal("Commit", e)
	}
}

// putKeys puts so many keys with long values, from a number on.
func putKeys(from, n int) func(b *chunk.Book) {
	return func(b *chunk.Book) {
		for i := range n {
			put(b, fmt.Sprintf("z%04d", from+i), fmt.Sprintf("%050d", i))
		}
	}
}

// pairs is all that a tree tells.
func pairs(u *tree.Tree) map[string]string {
	return maps.Collect(u.Scan("", ""))
}

// contents is the bytes of all chunks of a book, by their numbers.
func contents(t *testing.T, b *chunk.Book) map[int]string {
	t.Helper()
	l := map[int]string{}
	for x := range b.Chunks() {
		data, e := b.Get(x.Id)
		if e != api.OK {
			t.Fatal("chunk", x, e)
		}
		l[x.Id] = string(data)
	}
	return l
}

// wantSpace holds that a book's space has just the nodes of a superblock's tree and the containers, and so many that wait.
func wantSpace(t *testing.T, v *vol.Vol, waiting int) {
	t.Helper()
	s := v.Super().Shape
	u, e := tree.Open(s.Sector, v.Super().Root, v.Disk())
	if e != api.OK {
		t.Fatal("the superblock's tree", e)
	}
	used, e := u.Sectors()
	if e != api.OK {
		t.Fatal("its nodes", e)
	}
	containers, e := v.Book().Containers()
	if e != api.OK {
		t.Fatal("containers", e)
	}
	for _, k := range containers {
		for i := range s.Pack {
			used = append(used, k.First+i)
		}
	}
	slices.Sort(used)
	if len(slices.Compact(slices.Clone(used))) != len(used) {
		t.Fatal("used twice", used)
	}
	sp := v.Book().Space()
	for _, n := range used {
		if !sp.Has(n) || layout.Kind(s, n) != api.AreaData {
			t.Error("not used", n)
		}
	}
	if sp.Used() != len(used) || sp.Waiting() != waiting {
		t.Error("used", sp.Used(), "waiting", sp.Waiting(), "want", len(used), waiting)
	}
}

// wantRight holds that a volume's tree, chunks and containers are right.
func wantRight(t *testing.T, v *vol.Vol) {
	t.Helper()
	b := v.Book()
	if e := b.Tree().Check(); e != api.OK {
		t.Fatal("the tree", e)
	}
	live := map[int]int{}
	for x := range b.Chunks() {
		if _, e := b.Get(x.Id); e != api.OK {
			t.Fatal("a chunk", x, e)
		}
		live[x.Container]++
	}
	containers, e := b.Containers()
	if e != api.OK {
		t.Fatal("containers", e)
	}
	for _, k := range containers {
		if live[k.Id] != k.Live {
			t.Error("live", k, live[k.Id])
		}
		delete(live, k.Id)
	}
	if len(live) > 0 {
		t.Error("containers that are not there", live)
	}
}

// TestFormat: P25.2: what a new volume is, and what lies on its disk.
func TestFormat(t *testing.T) {
	for _, s := range []api.Shape{
		someShape(),
		{Sector: 512, Sectors: 16, Journal: 2, Pack: 2, Cut: api.Cut{Min: 1, Normal: 16, Max: 16}},
		{Sector: 512, Sectors: 16, Journal: 4, Pack: 64, Cut: api.Cut{Min: 16, Normal: 16, Max: 128}, Bits: 1, Dedup: true},
		{Sector: 4096, Sectors: 4096, Journal: 1024, Pack: 64, Cut: api.Cut{Min: 100, Normal: 65536, Max: 65536 + 7, Seed: 1 << 63}, Bits: 256, Dedup: true},
	} {
		v := format(t, s)
		first := layout.Data(s).First
		want := api.Super{Generation: 1, Root: first, Shape: s}
		if v.Super() != want {
			t.Error("superblock", v.Super(), "want", want)
		}
		d := v.Disk()
		if _, writes, flushes := d.Counts(); d.Size() != s.Sector || d.Count() != s.Sectors || writes != 2 || flushes != 2 || len(d.Pending()) > 0 {
			t.Error("the disk", d.Size(), d.Count(), writes, flushes, d.Pending())
		}
		empty, _ := tree.New(s.Sector)
		root, _ := name.Format(empty)
		if !maps.Equal(pairs(v.Book().Tree()), pairs(root)) || v.Book().Tree().Root() != first || v.Book().Tree().Dirty() != 0 {
			t.Error("the tree", pairs(v.Book().Tree()))
		}
		if v.Book().Shape() != s || v.Book().Space().Left() != layout.Data(s).Count-1 {
			t.Error("the book", v.Book().Shape(), v.Book().Space().Left())
		}
		wantSpace(t, v, 0)
		wantRight(t, v)
		image := make([]byte, s.Sector*s.Sectors)
		super, _ := layout.EncodeSuper(want)
		_, nodes, _ := root.Place([]int{first})
		copy(image[s.Sector:], super)
		copy(image[first*s.Sector:], nodes[0].Bytes)
		if !bytes.Equal(d.Image(), image) {
			t.Error("the image is another one")
		}
	}
}

// TestFormatRefused: P25.2: what layout.Check refuses.
func TestFormatRefused(t *testing.T) {
	for _, spoil := range []func(s *api.Shape){
		func(s *api.Shape) { s.Sector = 500 },
		func(s *api.Shape) { s.Sectors = 15 },
		func(s *api.Shape) { s.Sectors = 4097 },
		func(s *api.Shape) { s.Journal = 17 },
		func(s *api.Shape) { s.Journal = 1 },
		func(s *api.Shape) { s.Pack = 1 },
		func(s *api.Shape) { s.Cut.Max = 985 },
		func(s *api.Shape) { s.Bits = -1 },
		func(s *api.Shape) { *s = api.Shape{} },
	} {
		s := someShape()
		spoil(&s)
		if v, e := vol.Format(s); v != nil || e != layout.Check(s) || e == api.OK {
			t.Error("Format", s, e)
		}
	}
}

// TestSame: P25.2, R4: two new ones are the same, and share nothing.
func TestSame(t *testing.T) {
	a, b := format(t, someShape()), format(t, someShape())
	mustCommit(t, a, putKeys(0, 20))
	a.Checkpoint()
	if b.Super().Generation != 1 || len(pairs(b.Book().Tree())) != 2 {
		t.Error("the other one has changed")
	}
	mustCommit(t, b, putKeys(0, 20))
	b.Checkpoint()
	if !bytes.Equal(a.Disk().Image(), b.Disk().Image()) {
		t.Error("the same calls, another image")
	}
}

// TestLooks: P25.7: a step of the index, the cache's Drop, what is present.
func TestLooks(t *testing.T) {
	v := format(t, someShape())
	if n := v.Drop(); n != 2 {
		t.Error("Drop behind Format: the node and the superblock", n)
	}
	if n := v.Drop(); n != 0 {
		t.Error("Drop again", n)
	}
	s := v.Super().Shape
	w := open(t, v.Disk())
	// The superblocks, the journal, the root; the new superblock lies where the other one was looked for.
	if n := w.Drop(); n != 2+s.Journal+1 {
		t.Error("Drop behind Open", n)
	}
	if w.Disk() != v.Disk() || w.Super().Generation != 2 {
		t.Error("Disk, Super")
	}
	if w.Compact() {
		t.Error("a step of an index without runs")
	}
}

// TestCompact: P25.7, P25.11: steps of the index are the book's, and change nothing that is told.
func TestCompact(t *testing.T) {
	s := someShape()
	s.Sectors, s.Journal, s.Pack, s.Cut.Max = 2048, 64, 8, 128
	v := format(t, s)
	for i := range 5 {
		mustCommit(t, v, func(b *chunk.Book) {
			for j := range 260 {
				if _, e := b.Put([]byte(fmt.Sprint("chunk ", i, j))); e != api.OK {
					t.Fatal(e)
				}
			}
		})
	}
	was, told := pairs(v.Book().Tree()), contents(t, v.Book())
	other, steps := v.Book().Fork(), 0
	for v.Compact() {
		steps++
		if !other.Compact() {
			t.Error("a step that the book has not")
		}
	}
	if steps == 0 || other.Compact() {
		t.Error("steps", steps)
	}
	if !maps.Equal(was, pairs(v.Book().Tree())) || !maps.Equal(told, contents(t, v.Book())) {
		t.Error("something has changed")
	}
}

// TestClosed: P25.7: a nil volume, one that no call gave, and a nil transaction.
func TestClosed(t *testing.T) {
	x := format(t, someShape()).Begin()
	for _, v := range []*vol.Vol{nil, {}} {
		if v.Begin() != nil || v.Commit(x) != api.ErrClosed || v.Commit(nil) != api.ErrClosed || v.Sync() != api.ErrClosed {
			t.Error("Begin, Commit, Sync")
		}
		if is, e := v.Checkpoint(); is || e != api.ErrClosed {
			t.Error("Checkpoint", is, e)
		}
		if v.Compact() || v.Drop() != 0 || v.Book() != nil || v.Disk() != nil || v.Super() != (api.Super{}) {
			t.Error("Compact, Drop, Book, Disk, Super")
		}
	}
	var none *vol.Tx
	if none.Book() != nil || new(vol.Tx).Book() != nil {
		t.Error("Book of no transaction")
	}
}
