package dir_test

import (
	"encoding/binary"
	"maps"
	"math"
	"slices"
	"strings"
	"testing"

	"dedup/api"
	"dedup/dir"
	"dedup/tree"
)

// keyOf is the key of a directory's number and a name.
func keyOf(number int, name string) string {
	return string(binary.BigEndian.AppendUint64([]byte{'d'}, uint64(number))) + name
}

// valueOf is the value of an inode's number and a kind.
func valueOf(number int, kind byte) string {
	return string(append(binary.BigEndian.AppendUint32(nil, uint32(number)), kind))
}

// treeOf is a tree of keys and values.
func treeOf(t *testing.T, l map[string]string) *tree.Tree {
	t.Helper()
	x, _ := tree.New(512)
	for key, value := range l {
		y, e := x.Put(key, value)
		if e != api.OK {
			t.Fatalf("a tree with %q: %d", key, e)
		}
		x = y
	}
	return x
}

// wantPairs holds all keys and values of a tree.
func wantPairs(t *testing.T, x *tree.Tree, want map[string]string) {
	t.Helper()
	if got := maps.Collect(x.Scan("", "")); !maps.Equal(got, want) {
		t.Errorf("tree %q, want %q", got, want)
	}
}

// must is a tree that was not refused.
func must(t *testing.T, x *tree.Tree, e api.Errno) *tree.Tree {
	t.Helper()
	if x == nil || e != api.OK {
		t.Fatal("refused", e)
	}
	return x
}

// mustPut is the tree with a name.
func mustPut(t *testing.T, x *tree.Tree, in int, name string, number int, isDir bool) *tree.Tree {
	t.Helper()
	y, e := dir.Put(x, in, name, number, isDir)
	return must(t, y, e)
}

// wantNoTree holds why there is no tree.
func wantNoTree(t *testing.T, what string, x *tree.Tree, e, want api.Errno) {
	t.Helper()
	if x != nil || e != want {
		t.Error(what, e, "want", want)
	}
}

// wantGet holds which inode a name is.
func wantGet(t *testing.T, x *tree.Tree, in int, name string, number int, isDir bool) {
	t.Helper()
	if n, d, e := dir.Get(x, in, name); n != number || d != isDir || e != api.OK {
		t.Errorf("Get %d %q: %d %t %d, want %d %t", in, name, n, d, e, number, isDir)
	}
}

// wantNoGet holds why a name is no inode.
func wantNoGet(t *testing.T, x *tree.Tree, in int, name string, want api.Errno) {
	t.Helper()
	if n, d, e := dir.Get(x, in, name); n != 0 || d || e != want {
		t.Errorf("Get %d %q: %d %t %d, want %d", in, name, n, d, e, want)
	}
}

// item is a name and a number, as List tells them.
type item struct {
	name   string
	number int
}

// listed is what List goes over.
func listed(x *tree.Tree, in int) []item {
	var l []item
	for name, number := range dir.List(x, in) {
		l = append(l, item{name, number})
	}
	return l
}

// wantList holds a directory that is right, by all that tell of one.
func wantList(t *testing.T, x *tree.Tree, in int, want ...item) {
	t.Helper()
	if l := listed(x, in); !slices.Equal(l, want) {
		t.Error("List", in, l, "want", want)
	}
	var names []string
	for _, i := range want {
		names = append(names, i.name)
	}
	if l, e := dir.Names(x, in); !slices.Equal(l, names) || e != api.OK {
		t.Error("Names", in, l, e, "want", names)
	}
	if empty, e := dir.Empty(x, in); empty != (len(want) == 0) || e != api.OK {
		t.Error("Empty", in, empty, e)
	}
}

// wantNoNames holds why a directory's names are not told.
func wantNoNames(t *testing.T, what string, x *tree.Tree, in int, want api.Errno) {
	t.Helper()
	if l, e := dir.Names(x, in); len(l) != 0 || e != want {
		t.Error(what, "Names", in, l, e, "want", want)
	}
	if empty, e := dir.Empty(x, in); empty || e != want {
		t.Error(what, "Empty", in, empty, e, "want", want)
	}
}

// wantRefs holds how many entries name each inode, or why that is not told.
func wantRefs(t *testing.T, what string, x *tree.Tree, why api.Errno, want ...api.Ref) {
	t.Helper()
	if l, e := dir.Refs(x); !slices.Equal(l, want) || e != why {
		t.Error(what, "Refs", l, e, "want", want, why)
	}
}

// TestExample: P19.1, P19.2: the chapter's example.
func TestExample(t *testing.T) {
	x := mustPut(t, treeOf(t, nil), 1, "b", 5, false)
	x = mustPut(t, x, 1, "a", 7, true)
	wantList(t, x, 1, item{"a", 7}, item{"b", 5})
	wantGet(t, x, 1, "a", 7, true)
	wantGet(t, x, 1, "b", 5, false)
	y, e := dir.Put(x, 1, "..", 5, false)
	wantNoTree(t, "..", y, e, api.ErrArg)
}

// TestBytes: the words: where an entry lies, and as what.
func TestBytes(t *testing.T) {
	x := treeOf(t, map[string]string{"c\xFF": "1", "e": "2"})
	x = mustPut(t, x, 0x01020304, "ab", 0x11223344, false)
	x = mustPut(t, x, api.MaxNumber, "\xFF\x01", api.MaxNumber, true)
	wantPairs(t, x, map[string]string{
		"c\xFF": "1", "e": "2",
		"d\x00\x00\x00\x00\x01\x02\x03\x04ab":       "\x11\x22\x33\x44\x01",
		"d\x00\x00\x00\x00\x7F\xFF\xFF\xFF\xFF\x01": "\x7F\xFF\xFF\xFF\x02",
	})
}

// TestNames: the words: which names may be; of others ErrArg of all that take one, though there be such a key.
func TestNames(t *testing.T) {
	long := strings.Repeat("n", api.MaxName)
	for _, name := range []string{
		"a", long, "...", ".a", "a.", "..a", "a..", " ", "\x01", "\xFF", "\x80\xC3", "\n", "\\", "é", "a b", strings.Repeat(".", api.MaxName), strings.Repeat("\xFF", api.MaxName),
	} {
		x := mustPut(t, treeOf(t, nil), 3, name, 9, true)
		wantGet(t, x, 3, name, 9, true)
		wantList(t, x, 3, item{name, 9})
		wantRefs(t, name, x, api.OK, api.Ref{Chunk: 9, Count: 1})
		x, e := dir.Remove(x, 3, name)
		wantPairs(t, must(t, x, e), nil)
	}
	for _, name := range []string{
		"", ".", "..", "/", "a/", "/a", "a/b", "\x00", "a\x00", "\x00a", "a\x00b", long + "n", long + "/", long[1:] + "/", long[1:] + "\x00", strings.Repeat("n", 55),
	} {
		l := map[string]string{keyOf(3, name): valueOf(9, 1), keyOf(3, "right"): valueOf(8, 1)}
		x := treeOf(t, l)
		wantNoGet(t, x, 3, name, api.ErrArg)
		y, e := dir.Put(x, 3, name, 9, false)
		wantNoTree(t, "Put "+name, y, e, api.ErrArg)
		y, e = dir.Remove(x, 3, name)
		wantNoTree(t, "Remove "+name, y, e, api.ErrArg)
		if l := listed(x, 3); !slices.Equal(l, []item{{"right", 8}}) {
			t.Errorf("%q: List %v", name, l)
		}
		wantNoNames(t, name, x, 3, api.ErrDir)
		wantRefs(t, name, x, api.ErrDir)
		wantPairs(t, x, l)
	}
	x := treeOf(t, nil)
	great := strings.Repeat("n", 1<<20)
	wantNoGet(t, x, 1, great, api.ErrArg)
	y, e := dir.Put(x, 1, great, 1, true)
	wantNoTree(t, "a great name", y, e, api.ErrArg)
}

// TestNumbers: which numbers may be, of directories and of inodes; ErrArg of others, though there be such a key.
func TestNumbers(t *testing.T) {
	for _, number := range []int{1, 2, 255, 256, 65536, api.MaxNumber - 1, api.MaxNumber} {
		x := mustPut(t, treeOf(t, nil), number, "a", 4, false)
		wantGet(t, x, number, "a", 4, false)
		wantList(t, x, number, item{"a", 4})
		x = mustPut(t, treeOf(t, nil), 4, "a", number, true)
		wantGet(t, x, 4, "a", number, true)
		wantList(t, x, 4, item{"a", number})
		wantRefs(t, "a number", x, api.OK, api.Ref{Chunk: number, Count: 1})
	}
	for _, number := range []int{0, -1, api.MaxNumber + 1, 1 << 32, 1<<32 + 1, math.MaxInt, math.MinInt} {
		l := map[string]string{keyOf(number, "a"): valueOf(9, 1)}
		x := treeOf(t, l)
		wantNoGet(t, x, number, "a", api.ErrArg)
		y, e := dir.Put(x, number, "b", 9, false)
		wantNoTree(t, "Put in", y, e, api.ErrArg)
		y, e = dir.Put(x, 1, "b", number, false)
		wantNoTree(t, "Put of", y, e, api.ErrArg)
		y, e = dir.Remove(x, number, "a")
		wantNoTree(t, "Remove", y, e, api.ErrArg)
		wantNoNames(t, "a number that may not be", x, number, api.ErrArg)
		if l := listed(x, number); len(l) != 0 {
			t.Error("List", number, l)
		}
		wantRefs(t, "a directory that may not be", x, api.ErrDir)
		wantPairs(t, x, l)
	}
}

// TestNoTree: ErrClosed of a nil tree, ahead of all else.
func TestNoTree(t *testing.T) {
	for _, number := range []int{1, 0, -1} {
		for _, name := range []string{"a", "", "..", "/"} {
			wantNoGet(t, nil, number, name, api.ErrClosed)
			x, e := dir.Put(nil, number, name, number, true)
			wantNoTree(t, "Put", x, e, api.ErrClosed)
			x, e = dir.Remove(nil, number, name)
			wantNoTree(t, "Remove", x, e, api.ErrClosed)
		}
		wantNoNames(t, "no tree", nil, number, api.ErrClosed)
		if l := listed(nil, number); len(l) != 0 {
			t.Error("List", l)
		}
	}
	wantRefs(t, "no tree", nil, api.ErrClosed)
}

// TestPutRemove: P19.1: an entry in the place of an old one; of names that are not there ErrNone; the old trees stay as they are.
func TestPutRemove(t *testing.T) {
	other := map[string]string{"c": "1", "e": "2", keyOf(2, "a"): valueOf(6, 1)}
	x := treeOf(t, other)
	wantNoGet(t, x, 1, "a", api.ErrNone)
	y, e := dir.Remove(x, 1, "a")
	wantNoTree(t, "Remove", y, e, api.ErrNone)
	a := mustPut(t, x, 1, "a", 5, false)
	b := mustPut(t, a, 1, "a", 6, true)
	wantGet(t, b, 1, "a", 6, true)
	wantList(t, b, 1, item{"a", 6})
	wantGet(t, a, 1, "a", 5, false)
	for _, name := range []string{"A", "aa", "b", "\x01"} {
		wantNoGet(t, b, 1, name, api.ErrNone)
		y, e = dir.Remove(b, 1, name)
		wantNoTree(t, "Remove "+name, y, e, api.ErrNone)
	}
	c, e := dir.Remove(b, 1, "a")
	wantPairs(t, must(t, c, e), other)
	wantNoGet(t, c, 1, "a", api.ErrNone)
	wantList(t, c, 1)
	wantGet(t, b, 1, "a", 6, true)
	wantPairs(t, x, other)
}

// TestOrder: P19.2, P19.4: names rise as bytes, of all lengths; directories know nothing of one another.
func TestOrder(t *testing.T) {
	names := []string{"\x01", "\x01\x01", " ", "...", "A", "Z", "a", "a\x01", "a.", "aa", "aaa", "ab", "b", "\x7F", "\x80", "é", "\xFF", "\xFF\xFF", strings.Repeat("\xFF", api.MaxName)}
	dirs := []int{1, 2, 254, 255, 256, 257, 65535, 65536, api.MaxNumber - 1, api.MaxNumber}
	x := treeOf(t, map[string]string{"c\xFF": "", "e": ""})
	for i := range names {
		name := names[(i*7)%len(names)]
		for _, in := range dirs {
			x = mustPut(t, x, in, name, (in-1+i*7)%len(names)+1, i%2 == 0)
		}
	}
	for _, in := range dirs {
		var want []item
		for i, name := range names {
			want = append(want, item{name, (in-1+i)%len(names) + 1})
		}
		wantList(t, x, in, want...)
	}
	for _, in := range []int{3, 253, 258, 65534, 65537, api.MaxNumber - 2} {
		wantList(t, x, in)
	}
}

// TestRefs: P19.3: inodes by rising numbers, each with all entries that name it, in one directory and in others, of either kind.
func TestRefs(t *testing.T) {
	wantRefs(t, "none", treeOf(t, map[string]string{"c\xFF": "", "e": "", "D": ""}), api.OK)
	x := mustPut(t, treeOf(t, map[string]string{"c\xFF": "", "e": ""}), 1, "z", 300, false)
	x = mustPut(t, x, 1, "a", 2, true)
	x = mustPut(t, x, 2, "b", 300, false)
	x = mustPut(t, x, 1, "c", 300, true)
	x = mustPut(t, x, api.MaxNumber, "c", api.MaxNumber, false)
	x = mustPut(t, x, 7, "c", 1, false)
	x = mustPut(t, x, 9, "\xFF", 1, true)
	wantRefs(t, "some", x, api.OK, api.Ref{Chunk: 1, Count: 2}, api.Ref{Chunk: 2, Count: 1}, api.Ref{Chunk: 300, Count: 3}, api.Ref{Chunk: api.MaxNumber, Count: 1})
	y, e := dir.Remove(x, 1, "a")
	y = mustPut(t, must(t, y, e), 1, "z", 1, false)
	wantRefs(t, "others", y, api.OK, api.Ref{Chunk: 1, Count: 3}, api.Ref{Chunk: 300, Count: 2}, api.Ref{Chunk: api.MaxNumber, Count: 1})
}
