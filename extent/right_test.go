package extent_test

import (
	"encoding/binary"
	"maps"
	"slices"
	"strings"
	"testing"

	"dedup/api"
	"dedup/disk"
	"dedup/extent"
	"dedup/tree"
)

// key is the key of numbers.
func key(l ...int) string {
	b := []byte("x")
	for _, n := range l {
		b = binary.BigEndian.AppendUint64(b, uint64(n))
	}
	return string(b)
}

// value is the value of an extent.
func value(chunk, length int) string {
	b := binary.BigEndian.AppendUint32(nil, uint32(chunk))
	return string(binary.BigEndian.AppendUint32(b, uint32(length)))
}

// wantWrong holds what is told of the inodes 4 and 5, and of all, where the inode 4 has something that is no extent's, or not.
func wantWrong(t *testing.T, what string, x *tree.Tree, of4, ofAll api.Errno) {
	t.Helper()
	for ino, want := range map[int]api.Errno{4: of4, 5: api.OK} {
		if l, e := extent.All(x, ino); e != want || e != api.OK && len(l) != 0 {
			t.Error(what, "All", ino, l, e, "want", want)
		}
		if l, e := extent.Over(x, ino, 500, 600); e != want || len(l) != 0 {
			t.Error(what, "Over", ino, l, e, "want", want)
		}
		if y, e := extent.Put(x, ino, ext(500, 1, 1)); e != want || (y == nil) != (e != api.OK) {
			t.Error(what, "Put", ino, e, "want", want)
		}
		if y, l, e := extent.Cut(x, ino, 500, 600); e != want || len(l) != 0 || (y == nil) != (e != api.OK) {
			t.Error(what, "Cut", ino, e, "want", want)
		}
		if n := len(slices.Collect(extent.Holes(x, ino, api.MaxFile))); n > 0 != (want == api.OK) {
			t.Error(what, "Holes", ino, n)
		}
	}
	if e := extent.Right(x); e != ofAll {
		t.Error(what, "Right", e, "want", ofAll)
	}
	if l, e := extent.Refs(x); e != ofAll || e != api.OK && len(l) != 0 {
		t.Error(what, "Refs", l, e, "want", ofAll)
	}
}

// TestWrong: P16.1 to P16.3 with the words: keys and values that are no extent's that may be, those of an inode and others.
func TestWrong(t *testing.T) {
	const file = api.MaxFile
	right := map[string]string{key(4, 0): value(1, 10), key(4, 20): value(2, 10), key(5, 0): value(1, 10), "w": "", "y": ""}
	for what, c := range map[string]struct {
		key, value string
		of4, ofAll api.Errno
	}{
		"a right one":            {key(4, 30), value(3, 10), api.OK, api.OK},
		"the last one":           {key(4, file-1), value(api.MaxNumber, 1), api.OK, api.OK},
		"a short value":          {key(4, 30), value(3, 10)[1:], api.ErrExtent, api.ErrExtent},
		"a long value":           {key(4, 30), value(3, 10) + "\x00", api.ErrExtent, api.ErrExtent},
		"no value":               {key(4, 30), "", api.ErrExtent, api.ErrExtent},
		"chunk 0":                {key(4, 30), value(0, 10), api.ErrExtent, api.ErrExtent},
		"a chunk too great":      {key(4, 30), value(api.MaxNumber+1, 10), api.ErrExtent, api.ErrExtent},
		"length 0":               {key(4, 30), value(3, 0), api.ErrExtent, api.ErrExtent},
		"beyond a file":          {key(4, 30), value(3, file-29), api.ErrExtent, api.ErrExtent},
		"very long":              {key(4, 30), value(3, 1<<32-1), api.ErrExtent, api.ErrExtent},
		"an offset beyond":       {key(4, file), value(3, 1), api.ErrExtent, api.ErrExtent},
		"a great offset":         {key(4, -1), value(3, 1), api.ErrExtent, api.ErrExtent},
		"an offset of 32 bits":   {key(4, 1<<32+40), value(3, 1), api.ErrExtent, api.ErrExtent},
		"a name":                 {key(4, 30) + "n", value(3, 10), api.ErrExtent, api.ErrExtent},
		"a key without offset":   {key(4), value(3, 10), api.ErrExtent, api.ErrExtent},
		"a short offset":         {key(4, 30)[:16], value(3, 10), api.ErrExtent, api.ErrExtent},
		"a key of three numbers": {key(4, 30, 1), value(3, 10), api.ErrExtent, api.ErrExtent},
		"the prefix alone":       {"x", "", api.OK, api.ErrExtent},
		"a short inode":          {"x\x00\x00\x00", value(3, 10), api.OK, api.ErrExtent},
		"an inode too great":     {key(api.MaxNumber+1, 0), value(3, 10), api.OK, api.ErrExtent},
		"an inode below 0":       {key(-1, 0), value(3, 10), api.OK, api.ErrExtent},
		"another's":              {key(6, 0), value(0, 10), api.OK, api.ErrExtent},
		"they meet":              {key(4, 29), value(3, 10), api.OK, api.ErrExtent},
		"they meet by a byte":    {key(4, 9), value(3, 1), api.OK, api.ErrExtent},
		"one within another":     {key(4, 5), value(3, 1), api.OK, api.ErrExtent},
		"one over others":        {key(4, 10), value(3, 100), api.OK, api.ErrExtent},
		"they touch":             {key(4, 10), value(3, 10), api.OK, api.OK},
		"another prefix":         {"y" + key(4, 0)[1:], "", api.OK, api.OK},
		"another prefix ahead":   {"w" + key(4, 0)[1:], "", api.OK, api.OK},
	} {
		l := maps.Clone(right)
		l[c.key] = c.value
		wantWrong(t, what, treeOf(t, l), c.of4, c.ofAll)
	}
}

// TestPutOrder: P16.2: what Check refuses, what All refuses, and what meets are the same error; none of them changes the tree.
func TestPutOrder(t *testing.T) {
	x := treeOf(t, map[string]string{key(4, 0): value(1, 10), key(4, 20): ""})
	was := pairsOf(x)
	for _, a := range []api.Extent{{}, ext(30, 1, 1), ext(5, 1, 1)} {
		if y, e := extent.Put(x, 4, a); y != nil || e != api.ErrExtent {
			t.Error("Put", a, e)
		}
	}
	wantPairs(t, x, was)
}

// TestOverlapping: P16.1, P16.3: where extents of a tree meet, All and Over tell all of them, and Holes is over what none of them has.
func TestOverlapping(t *testing.T) {
	x := treeOf(t, map[string]string{key(4, 0): value(1, 50), key(4, 10): value(2, 10), key(4, 60): value(3, 5)})
	wantAll(t, x, 4, ext(0, 50, 1), ext(10, 10, 2), ext(60, 5, 3))
	wantHoles(t, x, 4, 70, api.Area{First: 50, Count: 10}, api.Area{First: 65, Count: 5})
	wantHoles(t, x, 4, 55, api.Area{First: 50, Count: 5})
	if l, e := extent.Over(x, 4, 15, 16); e != api.OK || !slices.Equal(l, []api.Extent{ext(0, 50, 1), ext(10, 10, 2)}) {
		t.Error("Over", l, e)
	}
}

// gone is a disk without some sector.
type gone struct {
	*disk.Disk
	sector int
}

func (g gone) Read(n int) ([]byte, api.Errno) {
	if n == g.sector {
		return nil, api.ErrSector
	}
	return g.Disk.Read(n)
}

// laid is a tree of three inodes as it lies on a disk: its root, and for each of its leaves whether it has a key of the inode 4.
func laid(t *testing.T, wrong bool) (*disk.Disk, int, map[int]int) {
	t.Helper()
	x, _ := tree.New(512)
	for _, ino := range []int{3, 4, 5} {
		for i := range 100 {
			x, _ = x.Put(key(ino, 10*i), value(i+1, 10))
		}
	}
	if wrong {
		x, _ = x.Put(key(4), "")
	}
	d, _ := disk.New(512, 256)
	sectors := make([]int, x.Dirty())
	for i := range sectors {
		sectors[i] = i + 1
	}
	x, l, e := x.Place(sectors)
	if e != api.OK {
		t.Fatal("Place", e)
	}
	leaves := map[int]int{}
	for _, s := range l {
		d.Write(s.N, s.Bytes)
		if s.N != x.Root() {
			leaves[s.N] = strings.Count(string(s.Bytes), key(4))
		}
	}
	return d, x.Root(), leaves
}

// TestBrokenTree: P16.1 to P16.3: what the tree refuses is told, whichever node of the inode can't be read.
func TestBrokenTree(t *testing.T) {
	d, root, leaves := laid(t, false)
	some := 0
	for sector, keys := range leaves {
		open := func() *tree.Tree {
			x, e := tree.Open(512, root, gone{d, sector})
			if e != api.OK {
				t.Fatal("Open", e)
			}
			return x
		}
		if e := extent.Right(open()); e != api.ErrTree {
			t.Error("Right", e)
		}
		if l, e := extent.Refs(open()); len(l) != 0 || e != api.ErrTree {
			t.Error("Refs", l, e)
		}
		if keys == 0 {
			continue
		}
		some++
		if l, e := extent.All(open(), 4); len(l) != 0 || e != api.ErrTree {
			t.Error("All", l, e)
		}
		if l, e := extent.Over(open(), 4, 0, 1); len(l) != 0 || e != api.ErrTree {
			t.Error("Over", l, e)
		}
		if x, e := extent.Put(open(), 4, ext(5000, 1, 1)); x != nil || e != api.ErrTree {
			t.Error("Put", e)
		}
		if x, l, e := extent.Cut(open(), 4, 0, 1); x != nil || len(l) != 0 || e != api.ErrTree {
			t.Error("Cut", l, e)
		}
		wantHoles(t, open(), 4, api.MaxFile)
	}
	if some < 3 {
		t.Error("too few leaves of the inode", some)
	}
	x, _ := tree.Open(512, root, d)
	if l, e := extent.All(x, 4); len(l) != 100 || e != api.OK || extent.Right(x) != api.OK {
		t.Error("whole", len(l), e)
	}
}

// TestExtentAheadOfTree: P16.1, P16.3: where a key ahead of what can't be read is no extent's, that is told first.
func TestExtentAheadOfTree(t *testing.T) {
	d, root, leaves := laid(t, true)
	last := 0
	for sector, keys := range leaves {
		if keys == 0 && sector > last {
			last = sector // nodes lie in the order of their keys
		}
	}
	x, _ := tree.Open(512, root, gone{d, last})
	if l, e := extent.All(x, 4); len(l) != 0 || e != api.ErrExtent {
		t.Error("All", l, e)
	}
	if e := extent.Right(x); e != api.ErrExtent {
		t.Error("Right", e)
	}
	if l, e := extent.Refs(x); len(l) != 0 || e != api.ErrExtent {
		t.Error("Refs", l, e)
	}
}

// TestHolesAtTheCall: P16.3 with R5: Holes is as the tree was at the call, whatever becomes of its source.
func TestHolesAtTheCall(t *testing.T) {
	d, root, leaves := laid(t, false)
	x, _ := tree.Open(512, root, d)
	holes := extent.Holes(x, 4, 1005)
	for sector := range leaves {
		d.Write(sector, make([]byte, 512))
	}
	if l := slices.Collect(holes); len(l) != 1 || l[0] != (api.Area{First: 1000, Count: 5}) {
		t.Error("Holes", l)
	}
}
