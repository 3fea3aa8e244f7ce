package extent_test

import (
	"maps"
	"math"
	"slices"
	"testing"

	"dedup/api"
	"dedup/extent"
	"dedup/tree"
)

// ext is an extent.
func ext(offset, length, chunk int) api.Extent {
	return api.Extent{Offset: offset, Length: length, Chunk: chunk}
}

// treeOf is a tree of keys and values.
func treeOf(t *testing.T, l map[string]string) *tree.Tree {
	t.Helper()
	x, _ := tree.New(512)
	for key, value := range l {
		y, e := x.Put(key, value)
		if e != api.OK {
			t.Fatalf("a tree with %q: %d", key, e)
		}
		x = y
	}
	return x
}

// mustPut is the tree with extents of an inode.
func mustPut(t *testing.T, x *tree.Tree, ino int, l ...api.Extent) *tree.Tree {
	t.Helper()
	for _, a := range l {
		y, e := extent.Put(x, ino, a)
		if e != api.OK || y == nil {
			t.Fatal("Put", ino, a, e)
		}
		x = y
	}
	return x
}

// wantAll holds the extents of an inode.
func wantAll(t *testing.T, x *tree.Tree, ino int, want ...api.Extent) {
	t.Helper()
	if l, e := extent.All(x, ino); e != api.OK || !slices.Equal(l, want) {
		t.Error("All", ino, l, e, "want", want)
	}
}

// wantHoles holds the holes of an inode.
func wantHoles(t *testing.T, x *tree.Tree, ino, size int, want ...api.Area) {
	t.Helper()
	if l := slices.Collect(extent.Holes(x, ino, size)); !slices.Equal(l, want) {
		t.Error("Holes", ino, size, l, "want", want)
	}
}

// pairsOf is all keys and values of a tree.
func pairsOf(x *tree.Tree) map[string]string {
	return maps.Collect(x.Scan("", ""))
}

// wantPairs holds all keys and values of a tree.
func wantPairs(t *testing.T, x *tree.Tree, want map[string]string) {
	t.Helper()
	if got := pairsOf(x); !maps.Equal(got, want) {
		t.Errorf("tree %q, want %q", got, want)
	}
}

// TestExample: P16.1 to P16.3: the chapter's example.
func TestExample(t *testing.T) {
	empty, _ := tree.New(512)
	x := mustPut(t, empty, 2, ext(0, 10, 1), ext(20, 5, 2))
	wantHoles(t, x, 2, 30, api.Area{First: 10, Count: 10}, api.Area{First: 25, Count: 5})
	if y, e := extent.Put(x, 2, ext(9, 3, 3)); y != nil || e != api.ErrExtent {
		t.Error("Put", e)
	}
	y, gone, e := extent.Cut(x, 2, 8, 21)
	if e != api.OK || !slices.Equal(gone, []api.Extent{ext(0, 10, 1), ext(20, 5, 2)}) {
		t.Error("Cut", gone, e)
	}
	wantAll(t, y, 2)
	wantAll(t, x, 2, ext(0, 10, 1), ext(20, 5, 2))
	wantAll(t, empty, 2)
}

// TestCheck: P16.1: which extents may be.
func TestCheck(t *testing.T) {
	const file, most = api.MaxFile, api.MaxNumber
	may := []api.Extent{ext(0, 1, 1), ext(0, file, 1), ext(file-1, 1, most), ext(1, file-1, 7), ext(5, 5, most)}
	not := []api.Extent{
		{}, ext(0, 0, 1), ext(0, 1, 0), ext(-1, 1, 1), ext(0, -1, 1), ext(0, 1, -1), ext(file, 1, 1), ext(file, 0, 1), ext(0, file+1, 1),
		ext(file-1, 2, 1), ext(1, file, 1), ext(0, 1, most+1), ext(math.MaxInt, 1, 1), ext(1, math.MaxInt, 1), ext(0, 1, math.MaxInt),
		ext(math.MinInt, 1, 1), ext(0, math.MinInt, 1), ext(0, 1, math.MinInt), ext(math.MaxInt, math.MaxInt, 1), ext(math.MinInt, math.MaxInt, 1),
		ext(-5, 10, 1), ext(1<<32, 1, 1), ext(0, 1<<32+1, 1), ext(0, 1, 1<<32+1),
	}
	empty, _ := tree.New(512)
	for _, x := range may {
		if e := extent.Check(x); e != api.OK {
			t.Error("Check", x, e)
		}
		wantAll(t, mustPut(t, empty, 3, x), 3, x)
	}
	for _, x := range not {
		if e := extent.Check(x); e != api.ErrExtent {
			t.Error("Check", x, e)
		}
		if y, e := extent.Put(empty, 3, x); y != nil || e != api.ErrExtent {
			t.Error("Put", x, e)
		}
	}
}

// TestBytes: the words: where extents lie, and as what.
func TestBytes(t *testing.T) {
	x := treeOf(t, map[string]string{"w": "1", "y": "2"})
	x = mustPut(t, x, 0x01020304, ext(0x0A0B0C, 0x0D0E, 0x11223344))
	x = mustPut(t, x, 0, ext(0, 1, api.MaxNumber))
	wantPairs(t, x, map[string]string{
		"w": "1", "y": "2",
		"x\x00\x00\x00\x00\x01\x02\x03\x04\x00\x00\x00\x00\x00\x0A\x0B\x0C": "\x11\x22\x33\x44\x00\x00\x0D\x0E",
		"x\x00\x00\x00\x00\x00\x00\x00\x00\x00\x00\x00\x00\x00\x00\x00\x00": "\x7F\xFF\xFF\xFF\x00\x00\x00\x01",
	})
}

// TestNoTree: ErrClosed of a nil tree, ahead of all else.
func TestNoTree(t *testing.T) {
	for _, ino := range []int{1, -1, api.MaxNumber + 1} {
		if l, e := extent.All(nil, ino); len(l) != 0 || e != api.ErrClosed {
			t.Error("All", l, e)
		}
		if l, e := extent.Over(nil, ino, 0, 1); len(l) != 0 || e != api.ErrClosed {
			t.Error("Over", l, e)
		}
		if x, e := extent.Put(nil, ino, api.Extent{}); x != nil || e != api.ErrClosed {
			t.Error("Put", e)
		}
		if x, l, e := extent.Cut(nil, ino, 0, 1); x != nil || len(l) != 0 || e != api.ErrClosed {
			t.Error("Cut", l, e)
		}
		wantHoles(t, nil, ino, 10)
	}
	if l, e := extent.Refs(nil); len(l) != 0 || e != api.ErrClosed {
		t.Error("Refs", l, e)
	}
	if e := extent.Right(nil); e != api.ErrClosed {
		t.Error("Right", e)
	}
}

// TestInodes: ErrArg of a number that no inode may have, ahead of what Check refuses; the least and the greatest are inodes.
func TestInodes(t *testing.T) {
	empty, _ := tree.New(512)
	for _, ino := range []int{-1, api.MaxNumber + 1, 1 << 32, math.MaxInt, math.MinInt} {
		if l, e := extent.All(empty, ino); len(l) != 0 || e != api.ErrArg {
			t.Error("All", ino, l, e)
		}
		if l, e := extent.Over(empty, ino, 0, 1); len(l) != 0 || e != api.ErrArg {
			t.Error("Over", ino, l, e)
		}
		for _, x := range []api.Extent{{}, ext(0, 1, 1)} {
			if y, e := extent.Put(empty, ino, x); y != nil || e != api.ErrArg {
				t.Error("Put", ino, e)
			}
		}
		if x, l, e := extent.Cut(empty, ino, 0, 1); x != nil || len(l) != 0 || e != api.ErrArg {
			t.Error("Cut", ino, l, e)
		}
		wantHoles(t, empty, ino, 10)
	}
	x := empty
	inodes := []int{0, 1, 255, 256, api.MaxNumber - 1, api.MaxNumber}
	for i, ino := range inodes {
		x = mustPut(t, x, ino, ext(i, 1, i+1), ext(api.MaxFile-1, 1, 9))
	}
	for i, ino := range inodes {
		wantAll(t, x, ino, ext(i, 1, i+1), ext(api.MaxFile-1, 1, 9))
	}
	wantAll(t, x, 2)
	if e := extent.Right(x); e != api.OK {
		t.Error("Right", e)
	}
}

// TestOver: P16.1, P16.2, P16.4: which extents have a byte of a range: each edge, and ranges without a byte.
func TestOver(t *testing.T) {
	empty, _ := tree.New(512)
	a, b, c := ext(10, 10, 1), ext(20, 5, 2), ext(30, 1, 3)
	x := mustPut(t, empty, 4, c, a, b)
	x = mustPut(t, x, 3, ext(0, 100, 9))
	x = mustPut(t, x, 5, ext(0, 100, 9))
	all := []api.Extent{a, b, c}
	for _, q := range []struct {
		from, to int
		want     []api.Extent
	}{
		{0, 10, nil}, {0, 11, all[:1]}, {10, 11, all[:1]}, {19, 20, all[:1]}, {19, 21, all[:2]}, {20, 21, all[1:2]}, {24, 25, all[1:2]},
		{25, 30, nil}, {25, 31, all[2:]}, {30, 31, all[2:]}, {31, 32, nil}, {12, 13, all[:1]}, {0, api.MaxFile, all}, {-5, 1 << 40, all},
		{math.MinInt, math.MaxInt, all}, {math.MinInt, 10, nil}, {31, math.MaxInt, nil}, {30, math.MaxInt, all[2:]},
		{12, 12, nil}, {15, 12, nil}, {20, 20, nil}, {math.MaxInt, math.MinInt, nil}, {21, 0, nil}, {19, 31, all}, {20, 30, all[1:2]},
	} {
		if l, e := extent.Over(x, 4, q.from, q.to); e != api.OK || !slices.Equal(l, q.want) {
			t.Error("Over", q.from, q.to, l, e, "want", q.want)
		}
		y, gone, e := extent.Cut(x, 4, q.from, q.to)
		if e != api.OK || !slices.Equal(gone, q.want) {
			t.Error("Cut", q.from, q.to, gone, e, "want", q.want)
		}
		left, _ := extent.All(y, 4)
		if len(left)+len(gone) != 3 || slices.ContainsFunc(left, func(l api.Extent) bool { return slices.Contains(gone, l) }) {
			t.Error("Cut", q.from, q.to, "left", left)
		}
		wantAll(t, y, 3, ext(0, 100, 9))
		wantAll(t, y, 5, ext(0, 100, 9))
		wantAll(t, x, 4, all...)
	}
}

// TestPutMeets: P16.2: an extent that meets another one of its inode, at each edge.
func TestPutMeets(t *testing.T) {
	empty, _ := tree.New(512)
	x := mustPut(t, empty, 4, ext(10, 10, 1), ext(30, 10, 2))
	x = mustPut(t, x, 5, ext(0, 100, 1))
	was := pairsOf(x)
	for _, a := range []api.Extent{ext(10, 10, 1), ext(10, 1, 3), ext(0, 11, 3), ext(19, 1, 3), ext(19, 11, 3), ext(20, 11, 3), ext(39, 1, 3), ext(0, 100, 3), ext(12, 2, 3), ext(9, 2, 3)} {
		if y, e := extent.Put(x, 4, a); y != nil || e != api.ErrExtent {
			t.Error("Put", a, e)
		}
	}
	for _, a := range []api.Extent{ext(0, 10, 3), ext(9, 1, 3), ext(20, 10, 1), ext(20, 1, 3), ext(29, 1, 3), ext(40, 1, 3), ext(40, api.MaxFile-40, 3)} {
		y := mustPut(t, x, 4, a)
		if l, _ := extent.All(y, 4); len(l) != 3 || !slices.Contains(l, a) {
			t.Error("All with", a, l)
		}
	}
	wantPairs(t, x, was)
}

// TestHoles: P16.3, P16.4: which sizes, where they begin and end.
func TestHoles(t *testing.T) {
	empty, _ := tree.New(512)
	wantHoles(t, empty, 4, 0)
	wantHoles(t, empty, 4, 1, api.Area{First: 0, Count: 1})
	wantHoles(t, empty, 4, api.MaxFile, api.Area{First: 0, Count: api.MaxFile})
	x := mustPut(t, empty, 4, ext(0, 4, 1), ext(4, 4, 2), ext(10, 5, 3), ext(api.MaxFile-1, 1, 4))
	x = mustPut(t, x, 5, ext(8, 2, 1))
	for _, size := range []int{-1, math.MinInt, api.MaxFile + 1, math.MaxInt} {
		wantHoles(t, x, 4, size)
	}
	for size := range 9 {
		wantHoles(t, x, 4, size)
	}
	wantHoles(t, x, 4, 9, api.Area{First: 8, Count: 1})
	for size := 10; size < 16; size++ {
		wantHoles(t, x, 4, size, api.Area{First: 8, Count: 2})
	}
	wantHoles(t, x, 4, 16, api.Area{First: 8, Count: 2}, api.Area{First: 15, Count: 1})
	wantHoles(t, x, 4, api.MaxFile, api.Area{First: 8, Count: 2}, api.Area{First: 15, Count: api.MaxFile - 16})
	wantHoles(t, x, 4, api.MaxFile-1, api.Area{First: 8, Count: 2}, api.Area{First: 15, Count: api.MaxFile - 16})
	wantHoles(t, x, 5, 12, api.Area{First: 0, Count: 8}, api.Area{First: 10, Count: 2})
}

// TestHolesAgain: P16.3 with R5: Holes begins anew each time, may be stopped, within itself too.
func TestHolesAgain(t *testing.T) {
	empty, _ := tree.New(512)
	x := mustPut(t, empty, 4, ext(2, 2, 1), ext(6, 2, 2))
	want := []api.Area{{First: 0, Count: 2}, {First: 4, Count: 2}, {First: 8, Count: 2}}
	holes := extent.Holes(x, 4, 10)
	for stop := range want {
		var got []api.Area
		for a := range holes {
			got = append(got, a)
			if len(got) == stop+1 {
				break
			}
		}
		if !slices.Equal(got, want[:stop+1]) {
			t.Error("stopped", got)
		}
	}
	for range holes {
		if got := slices.Collect(holes); !slices.Equal(got, want) {
			t.Error("within itself", got)
		}
	}
}

// TestRefs: P16.3, P16.5: chunks by their numbers, of all inodes.
func TestRefs(t *testing.T) {
	empty, _ := tree.New(512)
	if l, e := extent.Refs(empty); len(l) != 0 || e != api.OK {
		t.Error("Refs of nothing", l, e)
	}
	x := mustPut(t, empty, 4, ext(0, 1, 300), ext(1, 1, 2), ext(2, 1, 300))
	x = mustPut(t, x, 0, ext(0, 1, 300), ext(1, 1, api.MaxNumber))
	x = mustPut(t, x, api.MaxNumber, ext(0, 1, 1))
	x, _ = x.Put("y", "")
	want := []api.Ref{{Chunk: 1, Count: 1}, {Chunk: 2, Count: 1}, {Chunk: 300, Count: 3}, {Chunk: api.MaxNumber, Count: 1}}
	if l, e := extent.Refs(x); e != api.OK || !slices.Equal(l, want) {
		t.Error("Refs", l, e)
	}
}
