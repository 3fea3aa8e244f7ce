package vol_test

import (
	"encoding/binary"
	"fmt"
	"maps"
	"slices"
	"strings"
	"testing"

	"dedup/api"
	"dedup/chunk"
	"dedup/disk"
	"dedup/file"
	"dedup/inode"
	"dedup/journal"
	"dedup/layout"
	"dedup/vol"
)

// numbers is numbers of 32 bits, one behind the other.
func numbers(l ...int) string {
	var b []byte
	for _, n := range l {
		b = binary.BigEndian.AppendUint32(b, uint32(n))
	}
	return string(b)
}

// keyOf is the key of a prefix and a number.
func keyOf(prefix byte, n int) string {
	return string(binary.BigEndian.AppendUint64([]byte{prefix}, uint64(n)))
}

// wantOpen holds what Open tells of a disk.
func wantOpen(t *testing.T, what string, d *disk.Disk, want api.Errno) {
	t.Helper()
	v, e := vol.Open(d)
	if e != want || (v == nil) != (e != api.OK) {
		t.Error(what, e, "want", want)
	}
}

// write is a disk like another one, but that a sector has other bytes.
func write(d *disk.Disk, n int, b []byte) *disk.Disk {
	other := d.Fork()
	if other.Write(n, b) != api.OK {
		panic("Write")
	}
	other.Flush()
	return other
}

// encoded is a superblock's bytes.
func encoded(t *testing.T, x api.Super) []byte {
	t.Helper()
	b, e := layout.EncodeSuper(x)
	if e != api.OK {
		t.Fatal("EncodeSuper", x, e)
	}
	return b
}

// TestOpenSuper: P25.6: no disk, no superblock that counts, one of another shape, one without a root.
func TestOpenSuper(t *testing.T) {
	wantOpen(t, "nil", nil, api.ErrArg)
	for _, count := range []int{1, 2, 16, 64} {
		d, _ := disk.New(512, count)
		wantOpen(t, fmt.Sprint("zeros ", count), d, api.ErrVolume)
	}
	v := format(t, someShape())
	d := v.Disk()
	wantOpen(t, "as it is", d.Fork(), api.OK)
	super := v.Super()
	for _, image := range [][]byte{d.Image()[:63*512], d.Image()[:512], append(d.Image(), make([]byte, 512)...)} {
		other, _ := disk.Load(512, image)
		wantOpen(t, "another count", other, api.ErrVolume)
	}
	other, _ := disk.Load(1024, d.Image())
	wantOpen(t, "another size", other, api.ErrVolume)
	wantOpen(t, "spoilt", write(d, 1, make([]byte, 512)), api.ErrVolume)
	swapped := write(write(d, 1, make([]byte, 512)), 0, encoded(t, super))
	wantOpen(t, "in the other slot", swapped, api.ErrVolume)
	super.Root, super.Generation = 0, 2
	wantOpen(t, "no root", write(d, 0, encoded(t, super)), api.ErrVolume)
	super.Root, super.Generation = 0, 0
	wantOpen(t, "an older one without a root", write(d, 0, encoded(t, super)), api.OK)
	super.Root, super.Generation = 6, 2
	w := open(t, write(d, 0, encoded(t, super)))
	if w.Super().Generation != 3 {
		t.Error("the newer one counts", w.Super())
	}
}

// TestOpenTree: P25.6: a root that is none, and a node below it.
func TestOpenTree(t *testing.T) {
	v := format(t, someShape())
	mustCommit(t, v, putKeys(0, 30))
	v.Checkpoint()
	d := v.Disk()
	sectors := mustSectors(t, v)
	for _, n := range sectors {
		wantOpen(t, fmt.Sprint("node ", n), write(d, n, make([]byte, 512)), api.ErrTree)
	}
	free := 6
	if slices.Contains(sectors, free) {
		t.Fatal("the first root lies there still")
	}
	wantOpen(t, "another sector", write(d, free, make([]byte, 512)), api.OK)
	super := v.Super()
	super.Root = 40
	wantOpen(t, "a root elsewhere", write(d, layout.Slot(super.Generation), encoded(t, super)), api.ErrTree)
}

// journaled is a disk like a volume's with these records in the journal.
func journaled(t *testing.T, v *vol.Vol, generation uint64, records ...string) *disk.Disk {
	t.Helper()
	s := v.Super().Shape
	d := v.Disk().Fork()
	w, _ := journal.New(s.Sector, s.Journal, generation)
	for _, rec := range records {
		if e := w.Append(rec); e != api.OK {
			t.Fatal("Append", e)
		}
	}
	for _, x := range w.Take() {
		d = write(d, layout.Journal(s).First+x.N, x.Bytes)
	}
	return d
}

// TestRedo: P25.6: records of the superblock's generation are applied, in order, up to the first one that is none or is refused.
func TestRedo(t *testing.T) {
	v := format(t, someShape())
	mustCommit(t, v, func(b *chunk.Book) {
		put(b, "za", "1")
		put(b, "zb", "1")
	})
	v.Checkpoint()
	was := pairs(v.Book().Tree())
	one := vol.Record([]api.Entry{{Key: "za", Value: "2"}, {Key: "zb", Gone: true}, {Key: "zc", Value: "2"}})
	two := vol.Record([]api.Entry{{Key: "za", Value: "3"}, {Key: "zc", Gone: true}, {Key: "zd", Value: "3"}})
	behind := func(l ...string) map[string]string {
		m := maps.Clone(was)
		for i := 0; i < len(l); i += 2 {
			if delete(m, l[i]); l[i+1] != "" {
				m[l[i]] = l[i+1]
			}
		}
		return m
	}
	afterOne := behind("za", "2", "zb", "", "zc", "2")
	afterTwo := behind("za", "3", "zb", "", "zd", "3")
	long := vol.Record([]api.Entry{{Key: "za", Value: "9"}, {Key: strings.Repeat("z", 65), Value: "9"}})
	for _, x := range []struct {
		what       string
		generation uint64
		records    []string
		want       map[string]string
	}{
		{"none", 2, nil, was},
		{"one", 2, []string{one}, afterOne},
		{"both", 2, []string{one, two}, afterTwo},
		{"an empty one between", 2, []string{one, "", two}, afterTwo},
		{"of an older generation", 1, []string{one, two}, was},
		{"of a newer generation", 3, []string{one, two}, was},
		{"no record", 2, []string{"\x03", one}, was},
		{"no record behind one", 2, []string{one, "\x02\x01b\x02\x01a", two}, afterOne},
		{"one that is refused", 2, []string{one, long, two}, afterOne},
		{"a text cut short", 2, []string{one, two[:len(two)-1]}, afterOne},
	} {
		w := open(t, journaled(t, v, x.generation, x.records...))
		if !maps.Equal(pairs(w.Book().Tree()), x.want) || w.Super().Generation != 3 || w.Book().Tree().Dirty() != 0 {
			t.Error(x.what, pairs(w.Book().Tree()), "want", x.want)
		}
		wantSpace(t, w, 0)
	}
	spoilt := journaled(t, v, 2, one, two)
	b, _ := spoilt.Read(2)
	b[100]++
	w := open(t, write(spoilt, 2, b))
	if !maps.Equal(pairs(w.Book().Tree()), was) {
		t.Error("a journal's sector that is not right")
	}
}

// TestOpenAlways: P25.6: a mount does a checkpoint in any case: generation by generation.
func TestOpenAlways(t *testing.T) {
	v := format(t, someShape())
	root := v.Super().Root
	for i := range 5 {
		make := func() *vol.Vol { return reloaded(t, v) }
		wantGroups(t, "a mount", make, func(u *vol.Vol) { vol.Open(u.Disk()) }, []int{i % 2})
		v = open(t, v.Disk())
		if v.Super().Generation != uint64(i+2) || v.Super().Root != root {
			t.Error("superblock", v.Super())
		}
	}
}

// reloaded is a volume on a disk of its own, behind as many mounts as it takes to have another one's generation.
func reloaded(t *testing.T, v *vol.Vol) *vol.Vol {
	t.Helper()
	u := format(t, v.Super().Shape)
	for u.Super().Generation < v.Super().Generation {
		u = open(t, u.Disk())
	}
	return u
}

// record is a container's record.
func record(b *chunk.Book, id int, numbersOf ...int) {
	put(b, keyOf('k', id), numbers(numbersOf...))
}

// TestOpenSpace: P25.6: containers that lie where no data is, or where a node or another container lies; of the superblock's tree and of the redone one.
func TestOpenSpace(t *testing.T) {
	for _, x := range []struct {
		what       string
		first, per func(b *chunk.Book)
		want       api.Errno
	}{
		{"beside each other", func(b *chunk.Book) { record(b, 1, 20, 1, 0) }, func(b *chunk.Book) { record(b, 2, 22, 0, 0) }, api.OK},
		{"the last ones", func(b *chunk.Book) { record(b, 1, 62, 0, 0) }, func(b *chunk.Book) { record(b, 7, 10, 0, 0) }, api.OK},
		{"behind the disk's end", func(b *chunk.Book) {}, func(b *chunk.Book) { record(b, 1, 63, 0, 0) }, api.ErrVolume},
		{"far behind", func(b *chunk.Book) { record(b, 1, 1<<32-1, 0, 0) }, func(b *chunk.Book) {}, api.ErrVolume},
		{"in the journal", func(b *chunk.Book) {}, func(b *chunk.Book) { record(b, 1, 5, 0, 0) }, api.ErrVolume},
		{"a superblock", func(b *chunk.Book) { record(b, 1, 0, 0, 0) }, func(b *chunk.Book) {}, api.ErrVolume},
		{"a node", func(b *chunk.Book) { record(b, 1, 7, 0, 0) }, func(b *chunk.Book) {}, api.ErrVolume},
		{"a node, then", func(b *chunk.Book) {}, func(b *chunk.Book) { record(b, 1, 6, 0, 0) }, api.ErrVolume},
		{"two of one tree", func(b *chunk.Book) { record(b, 1, 20, 0, 0); record(b, 2, 21, 0, 0) }, func(b *chunk.Book) {}, api.ErrVolume},
		{"two of the redone tree", func(b *chunk.Book) {}, func(b *chunk.Book) { record(b, 1, 20, 0, 0); record(b, 2, 20, 0, 0) }, api.ErrVolume},
		{"one of each", func(b *chunk.Book) { record(b, 1, 20, 0, 0) }, func(b *chunk.Book) { record(b, 2, 19, 0, 0) }, api.ErrVolume},
		{"one that is gone, and another", func(b *chunk.Book) { record(b, 1, 20, 0, 0) }, func(b *chunk.Book) { remove(b, keyOf('k', 1)); record(b, 2, 20, 0, 0) }, api.ErrVolume},
		{"one that is gone", func(b *chunk.Book) { record(b, 1, 20, 0, 0) }, func(b *chunk.Book) { remove(b, keyOf('k', 1)) }, api.OK},
		{"one that is gone, in the journal", func(b *chunk.Book) { record(b, 1, 4, 0, 0) }, func(b *chunk.Book) { remove(b, keyOf('k', 1)) }, api.ErrVolume},
		{"one that was none", func(b *chunk.Book) { record(b, 1, 4, 0) }, func(b *chunk.Book) { remove(b, keyOf('k', 1)) }, api.OK},
		{"more live slots than slots", func(b *chunk.Book) { record(b, 1, 4, 0, 1) }, func(b *chunk.Book) { remove(b, keyOf('k', 1)) }, api.OK},
		{"a longer key", func(b *chunk.Book) { put(b, keyOf('k', 1)+"x", numbers(4, 0, 0)) }, func(b *chunk.Book) { remove(b, keyOf('k', 1)+"x") }, api.OK},
		{"no number", func(b *chunk.Book) { record(b, 0, 4, 0, 0) }, func(b *chunk.Book) { remove(b, keyOf('k', 0)) }, api.OK},
		{"too great a number", func(b *chunk.Book) { record(b, 1<<31, 4, 0, 0) }, func(b *chunk.Book) { remove(b, keyOf('k', 1<<31)) }, api.OK},
		{"the other's counts", func(b *chunk.Book) { record(b, 1, 20, 0, 0) }, func(b *chunk.Book) { record(b, 1, 20, 5, 0) }, api.OK},
		{"no container", func(b *chunk.Book) {}, func(b *chunk.Book) { record(b, 1, 20, 0) }, api.ErrChunk},
		{"no chunk", func(b *chunk.Book) {}, func(b *chunk.Book) { put(b, keyOf('c', 1), "") }, api.ErrChunk},
		{"no chunk, and in the journal", func(b *chunk.Book) { record(b, 1, 5, 0, 0) }, func(b *chunk.Book) { put(b, keyOf('c', 1), "") }, api.ErrVolume},
	} {
		v := format(t, someShape())
		mustCommit(t, v, func(b *chunk.Book) { x.first(b); put(b, "z", "") })
		v.Checkpoint() // its node lies in 7 now
		mustCommit(t, v, x.per)
		v.Sync()
		wantOpen(t, x.what, v.Disk().Fork(), x.want)
		if x.want == api.OK {
			w := open(t, v.Disk())
			wantSpace(t, w, 0)
			if !maps.Equal(pairs(v.Book().Tree()), pairs(w.Book().Tree())) {
				t.Error(x.what, "another tree")
			}
		}
	}
}

// TestOpenWaits: P25.6: a container that the journal lets go is not written over ahead of the superblock; then it is free.
func TestOpenWaits(t *testing.T) {
	v := format(t, someShape())
	mustCommit(t, v, putChunks(900, 900)) // in 7 and 9
	v.Checkpoint()                        // the root lies in 11
	mustCommit(t, v, func(b *chunk.Book) { b.Decr(1) })
	v.Sync()
	w := open(t, v.Disk().Fork())
	if w.Super().Root != 6 {
		t.Error("the root", w.Super().Root)
	}
	v.Disk().Crash(nil)
	mustCommit(t, v, putKeys(0, 9))
	v.Sync()
	w = open(t, v.Disk())
	if l := mustSectors(t, w); slices.Contains(l, 7) || slices.Contains(l, 8) {
		t.Error("nodes where it lay", l)
	}
	if sp := w.Book().Space(); sp.Has(7) || sp.Has(8) || !sp.Has(9) || !sp.Has(10) {
		t.Error("it is not free behind the mount")
	}
	wantSpace(t, w, 0)
	wantRight(t, w)
}

// orphan is a file without a name, with its mark, of so many bytes.
func orphan(t *testing.T, b *chunk.Book, n int) int {
	t.Helper()
	u, x, e := inode.New(b.Tree(), false, 0)
	if e != api.OK {
		t.Fatal("New", e)
	}
	b.Set(u)
	var data []byte
	for i := range n {
		data = append(data, byte(x.Number*i*i))
	}
	if x.Size, e = file.Write(b, x.Number, 0, 0, string(data)); e != api.OK {
		t.Fatal("Write", e)
	}
	if u, e = inode.Put(b.Tree(), x); e != api.OK {
		t.Fatal("Put", e)
	}
	if u, e = inode.Orphan(u, x.Number); e != api.OK {
		t.Fatal("Orphan", e)
	}
	b.Set(u)
	return x.Number
}

// TestOrphans: P25.6: a mount frees orphans: their content, inodes and marks.
func TestOrphans(t *testing.T) {
	v := format(t, someShape())
	mustCommit(t, v, func(b *chunk.Book) { b.Put([]byte("stays")) })
	was := pairs(v.Book().Tree())
	mustCommit(t, v, func(b *chunk.Book) {
		orphan(t, b, 300)
		orphan(t, b, 0)
		orphan(t, b, 700)
	})
	v.Checkpoint()
	mustCommit(t, v, func(b *chunk.Book) { orphan(t, b, 100) })
	v.Sync()
	w := open(t, v.Disk())
	now := pairs(w.Book().Tree())
	for key := range now {
		if _, is := was[key]; !is {
			t.Errorf("a key is left: %q", key)
		}
	}
	if l, e := inode.Orphans(w.Book().Tree()); e != api.OK || len(l) > 0 || len(contents(t, w.Book())) != 1 {
		t.Error("orphans", l, e)
	}
	if next, _, _, _ := inode.Counters(w.Book().Tree()); next != 6 {
		t.Error("numbers are given once", next)
	}
	wantRight(t, w)
	wantSpace(t, w, 0)
	again := open(t, w.Disk())
	if !maps.Equal(pairs(again.Book().Tree()), now) {
		t.Error("another mount changes something")
	}
}

// TestOrphansRefused: P25.6: where one of them is refused none is freed, and the mount is not refused.
func TestOrphansRefused(t *testing.T) {
	for what, spoil := range map[string]func(b *chunk.Book){
		"a mark without an inode": func(b *chunk.Book) { put(b, keyOf('o', 1000), "") },
		"a mark with a value":     func(b *chunk.Book) { put(b, keyOf('o', 1000), "x") },
		"a key that is no mark":   func(b *chunk.Book) { put(b, "o", "") },
		"a chunk that is not there": func(b *chunk.Book) {
			n := orphan(t, b, 0)
			put(b, keyOf('x', n)+"\x00\x00\x00\x00\x00\x00\x00\x00", numbers(99, 5))
		},
	} {
		v := format(t, someShape())
		mustCommit(t, v, func(b *chunk.Book) {
			orphan(t, b, 300)
			spoil(b)
		})
		v.Sync()
		w := open(t, v.Disk())
		if !maps.Equal(pairs(w.Book().Tree()), pairs(v.Book().Tree())) {
			t.Error(what, "something was freed")
		}
		wantSpace(t, w, 0)
	}
}

// TestOrphansFull: P25.6: where it would not fit nothing is freed; the mount is not refused.
func TestOrphansFull(t *testing.T) {
	s := someShape()
	s.Sectors, s.Journal = 24, 2
	stays, freed := 0, 0
	for n := range 90 {
		v := format(t, s)
		if commit(v, func(b *chunk.Book) { orphan(t, b, 60) }) != api.OK {
			t.Fatal("Commit")
		}
		v.Checkpoint()
		if commit(v, putKeys(0, n)) != api.OK {
			break
		}
		v.Checkpoint()
		commit(v, func(b *chunk.Book) { put(b, "zzz", "") })
		v.Sync()
		want := v.Book().Fork()
		book, _ := chunk.New(s, want.Tree(), want.Space(), v.Disk())
		free(t, book)
		fits := book.Tree().Dirty() <= book.Space().Left()
		w := open(t, v.Disk())
		if l, _ := inode.Orphans(w.Book().Tree()); fits != (len(l) == 0) {
			t.Error("orphans", n, l, fits)
		}
		if fits {
			freed++
		} else {
			stays++
		}
		wantSpace(t, w, 0)
		wantRight(t, w)
	}
	if stays < 1 || freed < 10 {
		t.Error("too seldom", stays, freed)
	}
}

// free frees a book's orphans.
func free(t *testing.T, b *chunk.Book) {
	t.Helper()
	l, e := inode.Orphans(b.Tree())
	if e != api.OK {
		t.Fatal("Orphans", e)
	}
	for _, n := range l {
		if e := file.Free(b, n); e != api.OK {
			t.Fatal("Free", e)
		}
		u, _ := inode.Remove(b.Tree(), n)
		u, e := inode.Adopt(u, n)
		if e != api.OK {
			t.Fatal("Adopt", e)
		}
		b.Set(u)
	}
}

// TestOpenFull: P25.6: a redone tree that does not fit: the checkpoint's error is told.
func TestOpenFull(t *testing.T) {
	s := someShape()
	s.Sectors, s.Journal = 16, 4
	v := format(t, s)
	mustCommit(t, v, func(b *chunk.Book) {
		for i := range 4 {
			record(b, 1+i, 8+2*i, 0, 0)
		}
	})
	v.Checkpoint() // its node lies in 7, so that 6 alone is free
	var l []api.Entry
	for i := range 20 {
		l = append(l, api.Entry{Key: fmt.Sprintf("z%02d", i), Value: strings.Repeat("v", 50)})
	}
	wantOpen(t, "too many nodes", journaled(t, v, 2, vol.Record(l)), api.ErrFull)
	wantOpen(t, "one node", journaled(t, v, 2, vol.Record(l[:1])), api.OK)
	wantOpen(t, "none", v.Disk(), api.OK)
}

// TestOpenBook: P25.6: the book of a mount is of the superblock's shape; no container is open in it.
func TestOpenBook(t *testing.T) {
	v := format(t, someShape())
	mustCommit(t, v, putChunks(10, 20))
	v.Sync()
	w := open(t, v.Disk())
	l, e := w.Book().Containers()
	if e != api.OK || len(l) != 1 || l[0].Open || l[0].Live != 2 || w.Book().Shape() != someShape() {
		t.Error("containers", l, e)
	}
	mustCommit(t, w, func(b *chunk.Book) {
		if id, e := b.Put([]byte(strings.Repeat("a", 10))); id != 1 || e != api.OK {
			t.Error("a chunk that is there", id, e)
		}
		b.Put([]byte("new"))
	})
	if l, _ := w.Book().Containers(); len(l) != 2 || !l[1].Open {
		t.Error("containers", l)
	}
}
