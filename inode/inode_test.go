package inode_test

import (
	"encoding/binary"
	"maps"
	"math"
	"slices"
	"testing"

	"dedup/api"
	"dedup/inode"
	"dedup/tree"
)

// aFile is a file's inode.
func aFile(number, size, links int) api.Inode {
	return api.Inode{Number: number, Size: size, Links: links}
}

// aDir is a directory's inode.
func aDir(number, links, parent int) api.Inode {
	return api.Inode{Number: number, Dir: true, Links: links, Parent: parent}
}

// keyOf is the key of a prefix and numbers.
func keyOf(prefix byte, l ...int) string {
	b := []byte{prefix}
	for _, n := range l {
		b = binary.BigEndian.AppendUint64(b, uint64(n))
	}
	return string(b)
}

// numbers is numbers of 32 bits, one behind the other.
func numbers(l ...int) string {
	var b []byte
	for _, n := range l {
		b = binary.BigEndian.AppendUint32(b, uint32(n))
	}
	return string(b)
}

// valueOf is the value of an inode.
func valueOf(kind byte, size, links, parent int) string {
	return string([]byte{kind}) + numbers(size, links, parent)
}

// treeOf is a tree of keys and values.
func treeOf(t *testing.T, l map[string]string) *tree.Tree {
	t.Helper()
	x, _ := tree.New(512)
	for key, value := range l {
		y, e := x.Put(key, value)
		if e != api.OK {
			t.Fatalf("a tree with %q: %d", key, e)
		}
		x = y
	}
	return x
}

// pairsOf is all keys and values of a tree.
func pairsOf(x *tree.Tree) map[string]string {
	return maps.Collect(x.Scan("", ""))
}

// wantPairs holds all keys and values of a tree.
func wantPairs(t *testing.T, x *tree.Tree, want map[string]string) {
	t.Helper()
	if got := pairsOf(x); !maps.Equal(got, want) {
		t.Errorf("tree %q, want %q", got, want)
	}
}

// must is a tree that was not refused.
func must(t *testing.T, x *tree.Tree, e api.Errno) *tree.Tree {
	t.Helper()
	if x == nil || e != api.OK {
		t.Fatal("refused", e)
	}
	return x
}

// wantNoTree holds why there is no tree.
func wantNoTree(t *testing.T, what string, x *tree.Tree, e, want api.Errno) {
	t.Helper()
	if x != nil || e != want {
		t.Error(what, e, "want", want)
	}
}

// mustNew makes an inode, and holds it.
func mustNew(t *testing.T, x *tree.Tree, dir bool, parent, number int) *tree.Tree {
	t.Helper()
	y, a, e := inode.New(x, dir, parent)
	if want := (api.Inode{Number: number, Dir: dir, Parent: parent}); a != want || e != api.OK || y == nil {
		t.Fatal("New", a, e, "want", want)
	}
	return y
}

// wantGet holds what is told of a number.
func wantGet(t *testing.T, what string, x *tree.Tree, number int, want api.Inode, why api.Errno) {
	t.Helper()
	if a, e := inode.Get(x, number); a != want || e != why {
		t.Error(what, "Get", number, a, e, "want", want, why)
	}
}

// wantAll holds all inodes.
func wantAll(t *testing.T, what string, x *tree.Tree, want ...api.Inode) {
	t.Helper()
	if l := slices.Collect(inode.All(x)); !slices.Equal(l, want) {
		t.Error(what, "All", l, "want", want)
	}
}

// wantCounters holds the next numbers.
func wantCounters(t *testing.T, what string, x *tree.Tree, a, b, c int, why api.Errno) {
	t.Helper()
	if i, k, o, e := inode.Counters(x); i != a || k != b || o != c || e != why {
		t.Error(what, "Counters", i, k, o, e, "want", a, b, c, why)
	}
}

// wantOrphans holds the numbers that are marked.
func wantOrphans(t *testing.T, what string, x *tree.Tree, want ...int) {
	t.Helper()
	if l, e := inode.Orphans(x); e != api.OK || !slices.Equal(l, want) {
		t.Error(what, "Orphans", l, e, "want", want)
	}
}

// TestExample: P18.1, P18.2: the chapter's example.
func TestExample(t *testing.T) {
	x := mustNew(t, treeOf(t, nil), true, 1, 1)
	x = mustNew(t, x, false, 0, 2)
	y, e := inode.Remove(x, 2)
	x = mustNew(t, must(t, y, e), false, 0, 3)
	wantCounters(t, "the example", x, 4, 1, 1, api.OK)
	wantAll(t, "the example", x, aDir(1, 0, 1), aFile(3, 0, 0))
}

// TestCheck: P18.1: which inodes may be; what may not is not put either, what may be is told again.
func TestCheck(t *testing.T) {
	const most, file, links = api.MaxNumber, api.MaxFile, api.MaxLinks
	empty := treeOf(t, nil)
	for _, a := range []api.Inode{
		aFile(1, 0, 0), aFile(most, 0, 0), aFile(7, file, 0), aFile(7, 1, links), aFile(2, 5, 1),
		aDir(1, 0, 1), aDir(most, links, most), aDir(1, 2, most), aDir(most, 2, 1), aDir(5, 1, 6),
	} {
		if e := inode.Check(a); e != api.OK {
			t.Error("Check", a, e)
		}
		y, e := inode.Put(empty, a)
		wantGet(t, "put", must(t, y, e), a.Number, a, api.OK)
		wantAll(t, "put", y, a)
	}
	sized := aDir(1, 0, 1)
	sized.Size = 1
	parented := aFile(1, 0, 0)
	parented.Parent = 1
	below := parented
	below.Parent = -1
	for _, a := range []api.Inode{
		{}, {Dir: true}, aFile(0, 0, 0), aFile(-1, 0, 0), aFile(most+1, 0, 0), aFile(math.MaxInt, 0, 0), aFile(math.MinInt, 0, 0), aFile(1<<32+1, 0, 0),
		aFile(1, -1, 0), aFile(1, file+1, 0), aFile(1, math.MaxInt, 0), aFile(1, math.MinInt, 0), aFile(1, 1<<32, 0),
		aFile(1, 0, -1), aFile(1, 0, links+1), aFile(1, 0, math.MaxInt), aFile(1, 0, math.MinInt), aFile(1, 0, 1<<32),
		aDir(0, 0, 1), aDir(most+1, 0, 1), aDir(1, -1, 1), aDir(1, links+1, 1),
		aDir(1, 0, 0), aDir(1, 0, -1), aDir(1, 0, most+1), aDir(1, 0, math.MaxInt), aDir(1, 0, math.MinInt), aDir(1, 0, 1<<32+1),
		sized, parented, below,
	} {
		if e := inode.Check(a); e != api.ErrInode {
			t.Error("Check", a, e)
		}
		y, e := inode.Put(empty, a)
		wantNoTree(t, "Put", y, e, api.ErrInode)
	}
	wantPairs(t, empty, nil)
}

// TestBytes: the words: where inodes, marks and counters lie, and as what.
func TestBytes(t *testing.T) {
	x := treeOf(t, map[string]string{"h": "1", "j": "2", "n": "3", "p": "4", "r": "5", "t": "6"})
	y, e := inode.Put(x, aFile(0x01020304, 0x0A0B0C, 0x0102))
	y, e = inode.Put(must(t, y, e), aDir(0x05060708, 3, 0x11223344))
	y, e = inode.Orphan(must(t, y, e), 0x01020304)
	y, e = inode.SetCounters(must(t, y, e), 0x10203040, 0x01020305, api.MaxNumber+1)
	wantPairs(t, must(t, y, e), map[string]string{
		"h": "1", "j": "2", "n": "3", "p": "4", "r": "5", "t": "6",
		"i\x00\x00\x00\x00\x01\x02\x03\x04": "\x01\x00\x0A\x0B\x0C\x00\x00\x01\x02\x00\x00\x00\x00",
		"i\x00\x00\x00\x00\x05\x06\x07\x08": "\x02\x00\x00\x00\x00\x00\x00\x00\x03\x11\x22\x33\x44",
		"o\x00\x00\x00\x00\x01\x02\x03\x04": "",
		"s":                                 "\x10\x20\x30\x40\x01\x02\x03\x05\x80\x00\x00\x00",
	})
}

// TestNoTree: ErrClosed of a nil tree, ahead of all else.
func TestNoTree(t *testing.T) {
	for _, number := range []int{1, 0, -1} {
		wantGet(t, "no tree", nil, number, api.Inode{}, api.ErrClosed)
		x, e := inode.Put(nil, aFile(number, 0, 0))
		wantNoTree(t, "Put", x, e, api.ErrClosed)
		x, a, e := inode.New(nil, true, number)
		wantNoTree(t, "New", x, e, api.ErrClosed)
		x, b, e := inode.Link(nil, number, 1)
		wantNoTree(t, "Link", x, e, api.ErrClosed)
		if a != (api.Inode{}) || b != (api.Inode{}) {
			t.Error("an inode of no tree", a, b)
		}
		x, e = inode.Remove(nil, number)
		wantNoTree(t, "Remove", x, e, api.ErrClosed)
		x, e = inode.Orphan(nil, number)
		wantNoTree(t, "Orphan", x, e, api.ErrClosed)
		x, e = inode.Adopt(nil, number)
		wantNoTree(t, "Adopt", x, e, api.ErrClosed)
		x, e = inode.SetCounters(nil, number, 1, 1)
		wantNoTree(t, "SetCounters", x, e, api.ErrClosed)
	}
	wantAll(t, "no tree", nil)
	wantCounters(t, "no tree", nil, 0, 0, 0, api.ErrClosed)
	if l, e := inode.Orphans(nil); len(l) != 0 || e != api.ErrClosed {
		t.Error("Orphans", l, e)
	}
	if e := inode.Right(nil); e != api.ErrClosed {
		t.Error("Right", e)
	}
}

// TestNone: P18.1, P18.3, P18.4: numbers of which there is no record, or that no inode may have; though there be such a key.
func TestNone(t *testing.T) {
	l := map[string]string{"s": numbers(9, 1, 1)}
	no := []int{0, -1, api.MaxNumber + 1, 1<<32 + 4, math.MaxInt, math.MinInt}
	for _, number := range append(slices.Clone(no), 4) {
		l[keyOf('i', number)] = valueOf(1, 0, 0, 0)
		l[keyOf('o', number)] = ""
	}
	x := treeOf(t, l)
	for _, number := range append(no, 3, 5, api.MaxNumber) {
		wantGet(t, "none", x, number, api.Inode{}, api.ErrNone)
		y, e := inode.Remove(x, number)
		wantNoTree(t, "Remove", y, e, api.ErrNone)
		y, a, e := inode.Link(x, number, 0)
		wantNoTree(t, "Link", y, e, api.ErrNone)
		if a != (api.Inode{}) {
			t.Error("Link", a)
		}
		y, e = inode.Orphan(x, number)
		wantNoTree(t, "Orphan", y, e, api.ErrNone)
		y, e = inode.Adopt(x, number)
		wantNoTree(t, "Adopt", y, e, api.ErrNone)
	}
	wantAll(t, "none", x, aFile(4, 0, 0))
	wantPairs(t, x, l)
}

// TestPutAgain: P18.1: an inode in the place of an old one; the old tree stays as it is; Remove is of that one alone.
func TestPutAgain(t *testing.T) {
	x, e := inode.Put(treeOf(t, map[string]string{"a": "b"}), aFile(4, 10, 1))
	x, e = inode.Put(must(t, x, e), aFile(5, 11, 2))
	y, e := inode.Put(must(t, x, e), aDir(4, 2, 9))
	wantAll(t, "another one", must(t, y, e), aDir(4, 2, 9), aFile(5, 11, 2))
	z, e := inode.Remove(y, 4)
	wantAll(t, "removed", must(t, z, e), aFile(5, 11, 2))
	wantGet(t, "removed", z, 4, api.Inode{}, api.ErrNone)
	again, e := inode.Remove(z, 4)
	wantNoTree(t, "Remove", again, e, api.ErrNone)
	wantAll(t, "the old one", x, aFile(4, 10, 1), aFile(5, 11, 2))
	wantAll(t, "the one behind", y, aDir(4, 2, 9), aFile(5, 11, 2))
	wantPairs(t, z, map[string]string{"a": "b", keyOf('i', 5): valueOf(1, 11, 2, 0)})
}

// TestNew: P18.2: which parents may be, and what a new inode is: the next number, whatever is there.
func TestNew(t *testing.T) {
	x := treeOf(t, nil)
	for _, c := range []struct {
		dir    bool
		parent int
	}{{true, 0}, {true, -1}, {true, api.MaxNumber + 1}, {true, math.MaxInt}, {true, math.MinInt}, {false, 1}, {false, -1}, {false, api.MaxNumber}, {false, math.MinInt}} {
		y, a, e := inode.New(x, c.dir, c.parent)
		wantNoTree(t, "New", y, e, api.ErrInode)
		if a != (api.Inode{}) {
			t.Error("New", a)
		}
	}
	wantPairs(t, x, nil)
	y := mustNew(t, x, true, api.MaxNumber, 1) // a parent is looked at no further
	y = mustNew(t, y, true, 1, 2)
	y = mustNew(t, y, false, 0, 3)
	wantPairs(t, y, map[string]string{
		"s":           numbers(4, 1, 1),
		keyOf('i', 1): valueOf(2, 0, 0, api.MaxNumber),
		keyOf('i', 2): valueOf(2, 0, 0, 1),
		keyOf('i', 3): valueOf(1, 0, 0, 0),
	})
	wantPairs(t, x, nil)
	y, e := inode.SetCounters(y, 70, 80, 90)
	y = mustNew(t, must(t, y, e), false, 0, 70)
	wantCounters(t, "the others stay", y, 71, 80, 90, api.OK)
}

// TestNewFull: P18.2: the last number is given, then none is left; a parent that may not be, or counters that are none, are told ahead of that.
func TestNewFull(t *testing.T) {
	const most = api.MaxNumber
	x := treeOf(t, map[string]string{"s": numbers(most, most+1, most+1)})
	y := mustNew(t, x, false, 0, most)
	wantCounters(t, "all given", y, most+1, most+1, most+1, api.OK)
	for _, c := range []struct {
		dir    bool
		parent int
		want   api.Errno
	}{{false, 0, api.ErrFull}, {true, 1, api.ErrFull}, {false, 1, api.ErrInode}, {true, 0, api.ErrInode}} {
		z, a, e := inode.New(y, c.dir, c.parent)
		wantNoTree(t, "New", z, e, c.want)
		if a != (api.Inode{}) {
			t.Error("New", a)
		}
	}
	wantGet(t, "the last one", y, most, aFile(most, 0, 0), api.OK)
	z, a, e := inode.New(treeOf(t, map[string]string{"s": numbers(most+1, 0, 1)}), false, 0)
	wantNoTree(t, "New", z, e, api.ErrInode)
	if a != (api.Inode{}) {
		t.Error("New", a)
	}
}

// TestCounters: P18.2 with the words: where there are none, each bound of each, and values that are none.
func TestCounters(t *testing.T) {
	const most = api.MaxNumber + 1
	wantCounters(t, "none", treeOf(t, map[string]string{"r": "", "t": ""}), 1, 1, 1, api.OK)
	wantCounters(t, "a longer key", treeOf(t, map[string]string{"sa": numbers(0, 0, 0), keyOf('s', 1): ""}), 1, 1, 1, api.OK)
	for _, l := range [][3]int{{1, 1, 1}, {most, most, most}, {1, 2, 3}, {most, 1, 2}, {1, most, 2}, {1, 2, most}} {
		x := treeOf(t, map[string]string{"s": numbers(l[:]...)})
		wantCounters(t, "some", x, l[0], l[1], l[2], api.OK)
		y, e := inode.SetCounters(treeOf(t, map[string]string{"s": "?"}), l[0], l[1], l[2])
		wantPairs(t, must(t, y, e), map[string]string{"s": numbers(l[:]...)})
	}
	for place := range 3 {
		for _, n := range []int{0, most + 1, 1<<32 - 1, -1, 1 << 32, 1<<32 + 1, math.MaxInt, math.MinInt} {
			l := [3]int{1, 1, 1}
			l[place] = n
			x := treeOf(t, nil)
			y, e := inode.SetCounters(x, l[0], l[1], l[2])
			wantNoTree(t, "SetCounters", y, e, api.ErrInode)
			if n == int(uint32(n)) {
				wantCounters(t, "one that may not be", treeOf(t, map[string]string{"s": numbers(l[:]...)}), 0, 0, 0, api.ErrInode)
			}
		}
	}
	for _, value := range []string{"", "?", numbers(1, 1), numbers(1, 1, 1)[1:], numbers(1, 1, 1) + "\x00", numbers(1, 1, 1, 1)} {
		x := treeOf(t, map[string]string{"s": value})
		wantCounters(t, "no counters", x, 0, 0, 0, api.ErrInode)
		y, _, e := inode.New(x, true, 1)
		wantNoTree(t, "New of a directory", y, e, api.ErrInode)
		y, _, e = inode.New(x, false, 0)
		wantNoTree(t, "New of a file", y, e, api.ErrInode)
	}
}

// TestLink: P18.3: each bound; all else of the inode stays.
func TestLink(t *testing.T) {
	const most = api.MaxLinks
	for _, a := range []api.Inode{aFile(4, 77, 5), aDir(4, 5, 9)} {
		x, e := inode.Put(treeOf(t, nil), a)
		was := pairsOf(must(t, x, e))
		for _, by := range []int{0, 1, -1, -5, most - 5, 3} {
			b := a
			b.Links = 5 + by
			y, got, e := inode.Link(x, 4, by)
			if got != b || e != api.OK {
				t.Error("Link", by, got, e)
			}
			wantAll(t, "linked", must(t, y, e), b)
		}
		for _, by := range []int{-6, most - 4, math.MaxInt, math.MinInt, math.MaxInt - 4, -1 << 32, 1 << 32} {
			y, got, e := inode.Link(x, 4, by)
			wantNoTree(t, "Link", y, e, api.ErrFull)
			if got != (api.Inode{}) {
				t.Error("Link", by, got)
			}
		}
		wantPairs(t, x, was)
	}
}

// TestOrphans: P18.4: marks by rising numbers, put once, taken away; they are nothing to the inodes.
func TestOrphans(t *testing.T) {
	x := treeOf(t, map[string]string{"n": "1", "p": "2"})
	wantOrphans(t, "none", x)
	l := []int{300, 2, api.MaxNumber, 255, 256, 1}
	for _, number := range l {
		y, e := inode.Put(x, aFile(number, 0, 0))
		y, e = inode.Orphan(must(t, y, e), number)
		x = must(t, y, e)
	}
	wantOrphans(t, "all", x, slices.Sorted(slices.Values(l))...)
	was := pairsOf(x)
	y, e := inode.Orphan(x, 2)
	wantPairs(t, must(t, y, e), was)
	y, e = inode.Adopt(x, 256)
	wantOrphans(t, "but one", must(t, y, e), 1, 2, 255, 300, api.MaxNumber)
	wantGet(t, "adopted", y, 256, aFile(256, 0, 0), api.OK)
	z, e := inode.Adopt(y, 256)
	wantNoTree(t, "Adopt", z, e, api.ErrNone)
	y, e = inode.Remove(x, 2) // its mark stays
	y, e = inode.Adopt(must(t, y, e), 2)
	z, e = inode.Orphan(must(t, y, e), 2)
	wantNoTree(t, "Orphan", z, e, api.ErrNone)
	wantPairs(t, x, was)
}
