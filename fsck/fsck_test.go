package fsck_test

import (
	"math"
	"slices"
	"testing"

	"dedup/api"
	"dedup/disk"
	"dedup/fs"
	"dedup/fsck"
	"dedup/inode"
	"dedup/journal"
	"dedup/layout"
	"dedup/tree"
	"dedup/vol"
)

// someShape is one of so many sectors.
func someShape(sectors int) api.Shape {
	return api.Shape{Sector: 512, Sectors: sectors, Journal: 4, Pack: 2, Cut: api.Cut{Min: 8, Normal: 16, Max: 64}, Bits: 256, Dedup: true}
}

// some is so many bytes without a rule that cutting would find.
func some(n, seed int) string {
	b := make([]byte, n)
	x := uint64(seed)*2654435761 + 1
	for i := range b {
		x = x*6364136223846793005 + 1442695040888963407
		b[i] = byte(x >> 56)
	}
	return string(b)
}

// done does operations that are not refused.
func done(t *testing.T, f *fs.Fs, l ...api.Op) {
	t.Helper()
	for _, o := range l {
		if r := f.Do(o); r.Err != api.OK {
			t.Fatalf("%+v: %v", o, r.Err)
		}
	}
}

// filled is a file system with a file (2) of 10 bytes in the chunk 1, with two names, one of them in a directory (3); a file (4) of 300 bytes; one (5) without a name; all of it in the superblock's tree.
func filled(t *testing.T, s api.Shape) *fs.Fs {
	t.Helper()
	f, e := fs.Format(s)
	if e != api.OK {
		t.Fatal("Format", e)
	}
	done(t, f,
		api.Op{Kind: api.OpOpen, Path: "/f", Flags: 1}, api.Op{Kind: api.OpMkdir, Path: "/d"}, api.Op{Kind: api.OpOpen, Path: "/d/g", Flags: 1}, api.Op{Kind: api.OpOpen, Path: "/h", Flags: 1},
		api.Op{Kind: api.OpWrite, Data: "the bytes."}, api.Op{Kind: api.OpWrite, Handle: 1, Data: some(300, 1)}, api.Op{Kind: api.OpWrite, Handle: 2, Offset: 9, Data: "the bytes."},
		api.Op{Kind: api.OpLink, Path: "/f", Other: "/d/f"}, api.Op{Kind: api.OpUnlink, Path: "/h"}, api.Op{Kind: api.OpCheckpoint})
	return f
}

// imageOf is what lies on a file system's disk.
func imageOf(f *fs.Fs) []byte {
	return f.Volume().Disk().Image()
}

// want holds what Check and Parts tell of an image: which part is not right (0: all are), and why.
func want(t *testing.T, what string, size int, image []byte, part int, why api.Errno) {
	t.Helper()
	v := fsck.Check(size, image)
	if part == 0 {
		if !v.Clean || v.Part != 0 || v.Err != api.OK {
			t.Errorf("%s: %+v, want it clean", what, v)
		}
	} else if v != (api.Verdict{Part: part, Err: why}) {
		t.Errorf("%s: %+v, want %s %d", what, v, fsck.Name(part), why)
	}
	last := 0
	for number, e := range fsck.Parts(size, image) {
		if last++; number != last || number > api.PartChunks || (e == api.OK) != (number != part) || number == part && e != why {
			t.Errorf("%s: Parts: %d %d, want %d %d", what, number, e, part, why)
		}
	}
	if part == 0 && last != api.PartChunks || part > 0 && last != part {
		t.Errorf("%s: Parts: the last one is %d, want %d", what, last, part)
	}
}

// load is a disk with the bytes of an image.
func load(t *testing.T, size int, image []byte) *disk.Disk {
	t.Helper()
	d, e := disk.Load(size, image)
	if e != api.OK {
		t.Fatal("Load", e)
	}
	return d
}

// with is an image where a sector has other bytes.
func with(image []byte, n int, b []byte) []byte {
	image = slices.Clone(image)
	copy(image[n*len(b):], b)
	return image
}

// withSuper is an image with another superblock, in its slot.
func withSuper(t *testing.T, image []byte, x api.Super) []byte {
	t.Helper()
	b, e := layout.EncodeSuper(x)
	if e != api.OK {
		t.Fatal("EncodeSuper", x, e)
	}
	return with(image, layout.Slot(x.Generation), b)
}

// superOf is the superblock of an image.
func superOf(t *testing.T, size int, image []byte) api.Super {
	t.Helper()
	x, _, e := layout.Choose(size, image[:size], image[size:2*size])
	if e != api.OK {
		t.Fatal("Choose", e)
	}
	return x
}

// treeOf is the superblock's tree of an image.
func treeOf(t *testing.T, size int, image []byte) *tree.Tree {
	t.Helper()
	u, e := tree.Open(size, superOf(t, size, image).Root, load(t, size, image))
	if e != api.OK {
		t.Fatal("Open", e)
	}
	return u
}

// laidAt is an image with another tree, whose dirty nodes lie in these sectors, and a superblock of the next generation.
func laidAt(t *testing.T, size int, image []byte, u *tree.Tree, sectors []int) []byte {
	t.Helper()
	clean, l, e := u.Place(sectors)
	if e != api.OK {
		t.Fatal("Place", e)
	}
	x := superOf(t, size, image)
	for _, s := range l {
		image = with(image, s.N, s.Bytes)
	}
	x.Root = clean.Root()
	x.Generation++
	return withSuper(t, image, x)
}

// laid is an image with another tree, whose dirty nodes lie in the highest sectors, which nothing else has.
func laid(t *testing.T, size int, image []byte, u *tree.Tree) []byte {
	t.Helper()
	var sectors []int
	for i := range u.Dirty() {
		sectors = append(sectors, superOf(t, size, image).Shape.Sectors-1-i)
	}
	return laidAt(t, size, image, u, sectors)
}

// journaled is an image with these records in its journal, of a generation, from a place on.
func journaled(t *testing.T, size int, image []byte, generation uint64, from int, records ...string) []byte {
	t.Helper()
	area := layout.Journal(superOf(t, size, image).Shape)
	w, e := journal.New(size, area.Count, generation)
	for range from {
		w.Append("")
		w.Take()
	}
	for _, rec := range records {
		if e == api.OK {
			e = w.Append(rec)
		}
	}
	if e != api.OK {
		t.Fatal("journal", e)
	}
	for _, s := range w.Take() {
		image = with(image, area.First+s.N, s.Bytes)
	}
	return image
}

// changed is an image with another tree, as records of the journal.
func changed(t *testing.T, size int, image []byte, u *tree.Tree) []byte {
	t.Helper()
	l, e := vol.Diff(treeOf(t, size, image), u)
	if e != api.OK {
		t.Fatal("Diff", e)
	}
	half := len(l) / 2
	return journaled(t, size, image, superOf(t, size, image).Generation, 0, vol.Record(l[:half]), vol.Record(l[half:]))
}

// TestExample: P28.1: the chapter's examples.
func TestExample(t *testing.T) {
	want(t, "zeros", 512, make([]byte, 64*512), api.PartSuper, api.ErrSuper)
	f, _ := fs.Format(someShape(64))
	image := imageOf(f)
	if v := fsck.Check(512, image); v != (api.Verdict{Clean: true, Nodes: 1, Inodes: 1, Free: 64 - 6 - 1}) {
		t.Errorf("behind Format: %+v", v)
	}
	image[f.Volume().Super().Root*512+20] ^= 1
	want(t, "a turned bit", 512, image, api.PartTree, api.ErrTree)
}

// TestCounts: P28.1: how many there are of all, in the superblock's tree and with what the journal has.
func TestCounts(t *testing.T) {
	s := someShape(128)
	s.Journal = 20
	f := filled(t, s)
	hold := func(what string, records int) {
		t.Helper()
		b := f.Volume().Book()
		x := api.Verdict{Clean: true, Records: records}
		base := treeOf(t, 512, imageOf(f))
		nodes, _ := base.Sectors()
		x.Nodes = len(nodes)
		for range inode.All(b.Tree()) {
			x.Inodes++
		}
		marks, _ := inode.Orphans(b.Tree())
		x.Orphans = len(marks)
		for key := range b.Tree().Scan("", "") {
			switch key[0] {
			case 'd':
				x.Entries++
			case 'x':
				x.Extents++
			case 'c':
				x.Chunks++
			}
		}
		firsts := map[string]struct{}{}
		for _, u := range []*tree.Tree{base, b.Tree()} {
			for key := range u.Scan("k", "l") {
				firsts[key] = struct{}{}
			}
		}
		l, _ := b.Containers()
		x.Containers = len(l)
		x.Free = s.Sectors - 2 - s.Journal - x.Nodes - s.Pack*len(firsts)
		if v := fsck.Check(512, imageOf(f)); v != x {
			t.Errorf("%s: %+v, want %+v", what, v, x)
		}
	}
	hold("behind a checkpoint", 0)
	v := fsck.Check(512, imageOf(f))
	if v.Inodes != 5 || v.Orphans != 1 || v.Entries != 4 || v.Chunks != v.Extents-1 || v.Chunks < 8 {
		t.Errorf("%+v", v)
	}
	done(t, f, api.Op{Kind: api.OpMkdir, Path: "/e"}, api.Op{Kind: api.OpTruncate, Handle: 1, N: 100}, api.Op{Kind: api.OpClose, Handle: 2}, api.Op{Kind: api.OpSync})
	hold("behind a sync", 3)
	for i := range 3 { // so that containers of the superblock's tree are gone
		done(t, f, api.Op{Kind: api.OpWrite, Handle: 1, Offset: 0, Data: some(300, i+5)}, api.Op{Kind: api.OpSync})
	}
	records := fsck.Check(512, imageOf(f)).Records
	if u := treeOf(t, 512, imageOf(f)); records < 4 || u.Check() != api.OK {
		t.Fatal("records", records)
	}
	hold("behind many", records)
}

// TestName: P28.2: each part's name.
func TestName(t *testing.T) {
	names := []string{"super", "tree", "journal", "keys", "space", "inodes", "names", "extents", "chunks"}
	for i, name := range names {
		if got := fsck.Name(api.PartSuper + i); got != name {
			t.Error(i, got)
		}
	}
	for _, part := range []int{0, -1, api.PartChunks + 1, math.MaxInt, math.MinInt} {
		if got := fsck.Name(part); got != "" {
			t.Error(part, got)
		}
	}
}

// TestParts: P28.2: parts are gone over anew each time, and may be left; what becomes of the image behind the call changes nothing.
func TestParts(t *testing.T) {
	image := imageOf(filled(t, someShape(64)))
	parts := fsck.Parts(512, image)
	clear(image)
	for range 3 {
		var l []int
		for part, e := range parts {
			if e != api.OK {
				t.Error(part, e)
			}
			l = append(l, part)
		}
		if !slices.Equal(l, []int{1, 2, 3, 4, 5, 6, 7, 8, 9}) {
			t.Error(l)
		}
		for leave := 1; leave <= 9; leave++ {
			for part := range parts {
				if part == leave {
					break
				}
				if part > leave {
					t.Error("not left", part)
				}
			}
		}
	}
}

// TestSuper: P28.1: images that are none, and superblocks that do not do.
func TestSuper(t *testing.T) {
	f := filled(t, someShape(64))
	image := imageOf(f)
	for _, size := range []int{0, 1, -512, 256, 500, 8192, math.MaxInt, math.MinInt} {
		want(t, "another size", size, image, api.PartSuper, api.ErrArg)
	}
	for _, n := range []int{0, 1, 511, 513, 4097 * 512} {
		want(t, "another length", 512, make([]byte, n), api.PartSuper, api.ErrArg)
	}
	want(t, "nothing", 512, nil, api.PartSuper, api.ErrArg)
	want(t, "of larger sectors", 1024, image, api.PartSuper, api.ErrSuper)
	want(t, "one sector", 512, image[512:1024], api.PartSuper, api.ErrSuper)
	x := f.Volume().Super()
	slot := layout.Slot(x.Generation)
	older := with(image, slot, make([]byte, 512))
	if v := fsck.Check(512, older); v.Part == api.PartSuper {
		t.Error("the older one", v)
	}
	want(t, "without both", 512, with(older, 1-slot, make([]byte, 512)), api.PartSuper, api.ErrSuper)
	for _, sectors := range []int{2, 16, 63} {
		want(t, "fewer sectors", 512, image[:sectors*512], api.PartSuper, api.ErrVolume)
	}
	want(t, "more sectors", 512, append(slices.Clone(image), make([]byte, 512)...), api.PartSuper, api.ErrVolume)
	other := x
	other.Root, other.Generation = 0, x.Generation+1
	want(t, "no root", 512, withSuper(t, image, other), api.PartSuper, api.ErrVolume)
	other.Generation = math.MaxUint64
	want(t, "no root, and no generation", 512, withSuper(t, image, other), api.PartSuper, api.ErrVolume)
	other = x
	other.Generation = math.MaxUint64
	want(t, "no generation", 512, withSuper(t, image, other), api.PartSuper, api.ErrFull)
	if _, e := fs.Mount(load(t, 512, withSuper(t, image, other))); e != api.ErrFull {
		t.Error("a mount", e)
	}
	other.Generation--
	want(t, "the last but one", 512, withSuper(t, image, other), 0, api.OK)
	if _, e := fs.Mount(load(t, 512, withSuper(t, image, other))); e != api.OK {
		t.Error("a mount of the last but one", e)
	}
}
