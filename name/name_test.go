package name_test

import (
	"maps"
	"strconv"
	"testing"

	"dedup/api"
	"dedup/dir"
	"dedup/inode"
	"dedup/name"
	"dedup/tree"
)

// format is a tree with a root.
func format(t *testing.T) *tree.Tree {
	t.Helper()
	x, _ := tree.New(512)
	y, e := name.Format(x)
	return must(t, y, e)
}

// treeOf is a tree of keys and values.
func treeOf(t *testing.T, l map[string]string) *tree.Tree {
	t.Helper()
	x, _ := tree.New(512)
	for key, value := range l {
		y, e := x.Put(key, value)
		x = must(t, y, e)
	}
	return x
}

// mkdir is a tree with one directory more.
func mkdir(t *testing.T, x *tree.Tree, p string) *tree.Tree {
	t.Helper()
	y, e := name.Mkdir(x, p)
	return must(t, y, e)
}

// create is a tree with one file more, of that number.
func create(t *testing.T, x *tree.Tree, p string, number int) *tree.Tree {
	t.Helper()
	y, n, made, e := name.Create(x, p, true)
	if n != number || !made {
		t.Fatal("Create", p, n, made, e)
	}
	return must(t, y, e)
}

// link is a tree with one name more of a file.
func link(t *testing.T, x *tree.Tree, p, other string) *tree.Tree {
	t.Helper()
	y, e := name.Link(x, p, other)
	return must(t, y, e)
}

// rename is a tree with another name, and what is told of the file that is gone.
func rename(t *testing.T, x *tree.Tree, p, other string, gone, links int) *tree.Tree {
	t.Helper()
	y, n, l, e := name.Rename(x, p, other)
	if n != gone || l != links {
		t.Fatal("Rename", p, other, n, l, e)
	}
	return must(t, y, e)
}

// wantStat holds what a path leads to.
func wantStat(t *testing.T, x *tree.Tree, p string, want api.Stat) {
	t.Helper()
	if s, e := name.Stat(x, p); s != want || e != api.OK {
		t.Error("Stat", p, s, e, "want", want)
	}
	if n, e := name.Walk(x, p); n != want.Number || e != api.OK {
		t.Error("Walk", p, n, e, "want", want.Number)
	}
}

// wantNoStat holds why a path leads nowhere.
func wantNoStat(t *testing.T, x *tree.Tree, p string, want api.Errno) {
	t.Helper()
	if s, e := name.Stat(x, p); s != (api.Stat{}) || e != want {
		t.Error("Stat", p, s, e, "want", want)
	}
	if n, e := name.Walk(x, p); n != 0 || e != want {
		t.Error("Walk", p, n, e, "want", want)
	}
}

// wantAs holds that a tree is right, or why it is not.
func wantAs(t *testing.T, what string, x *tree.Tree, want api.Errno) {
	t.Helper()
	if e := name.Right(x); e != want {
		t.Error(what, "Right", e, "want", want)
	}
}

// wantRefused holds that a call is refused, with nothing told beside it.
func wantRefused(t *testing.T, what string, x *tree.Tree, c call, want api.Errno) {
	t.Helper()
	if y, got := c.ofTree(x); y != nil || got != (told{e: want}) {
		t.Errorf("%s: %+v %v, want %d", what, c, got, want)
	}
}

// TestExample: P21.1 to P21.5: the chapter's example.
func TestExample(t *testing.T) {
	x := create(t, mkdir(t, format(t), "/a"), "/a/f", 3)
	x = link(t, x, "/a/f", "/g")
	x, number, links, e := name.Unlink(x, "/a/f")
	if number != 3 || links != 1 || e != api.OK {
		t.Fatal("Unlink", number, links, e)
	}
	wantRefused(t, "below itself", x, call{what: "rename", p: "/a", other: "/a/b"}, api.EInval)
	x, e = name.Rmdir(x, "/a")
	x = must(t, x, e)
	wantStat(t, x, "/g", api.Stat{Number: 3, Links: 1})
	wantAs(t, "the example", x, api.OK)
}

// TestFormat: P21.1: an empty tree gets a root; one that has a key is refused.
func TestFormat(t *testing.T) {
	for _, size := range []int{512, 4096} {
		empty, _ := tree.New(size)
		x, e := name.Format(empty)
		want := map[string]string{"s": numbers(2, 1, 1), keyOf('i', 1): inodeText(2, 0, 2, 1)}
		if got := maps.Collect(must(t, x, e).Scan("", "")); !maps.Equal(got, want) {
			t.Errorf("Format %q", got)
		}
		if n, _ := empty.Count(); n != 0 {
			t.Error("the tree that was handed in has", n)
		}
		wantStat(t, x, "/", api.Stat{Number: 1, Dir: true, Links: 2})
		wantAs(t, "Format", x, api.OK)
		if y, e := name.Format(x); y != nil || e != api.ErrArg {
			t.Error("Format again", e)
		}
	}
	for _, key := range []string{"\x00", "a", "d", "i", "s", "\xFF"} {
		if y, e := name.Format(treeOf(t, map[string]string{key: ""})); y != nil || e != api.ErrArg {
			t.Errorf("Format of a tree with %q: %d", key, e)
		}
	}
	x := treeOf(t, map[string]string{"a": ""})
	x, e := x.Delete("a")
	if y, e := name.Format(must(t, x, e)); y == nil || e != api.OK {
		t.Error("Format of a tree that is empty again", e)
	}
}

// TestNil: P21.1 to P21.6: of no tree all are ErrClosed, ahead of what a path is.
func TestNil(t *testing.T) {
	for _, p := range []string{"/", "/a", "/.", "", "a"} {
		for _, what := range []string{"stat", "create", "mkdir", "rmdir", "link", "unlink", "rename"} {
			wantRefused(t, "nil", nil, call{what: what, p: p, other: p}, api.ErrClosed)
		}
		wantRefused(t, "nil", nil, call{what: "create", p: p, exclusive: true}, api.ErrClosed)
	}
	if x, e := name.Format(nil); x != nil || e != api.ErrClosed {
		t.Error("Format", e)
	}
	wantAs(t, "nil", nil, api.ErrClosed)
}

// TestStat: P21.1: Stat tells a file's size as its inode has it, a directory's links as the words.
func TestStat(t *testing.T) {
	x := create(t, mkdir(t, mkdir(t, format(t), "/a"), "/a/b"), "/a/f", 4)
	x, e := inode.Put(x, api.Inode{Number: 4, Size: api.MaxFile, Links: 1})
	x = must(t, x, e)
	wantStat(t, x, "/a/f", api.Stat{Number: 4, Size: api.MaxFile, Links: 1})
	wantStat(t, x, "/a", api.Stat{Number: 2, Dir: true, Links: 3})
	wantStat(t, x, "/a/b/../../a/b/.", api.Stat{Number: 3, Dir: true, Links: 2})
	wantStat(t, x, "/../../a/f/", api.Stat{Number: 4, Size: api.MaxFile, Links: 1})
	wantNoStat(t, x, "/a/f/.", api.ENotDir)
	wantNoStat(t, x, "/a/f/..", api.ENotDir)
	wantNoStat(t, x, "/a/f/x", api.ENotDir)
	wantNoStat(t, x, "/a/x/..", api.ENoEnt)
	wantNoStat(t, x, "/a/x", api.ENoEnt)
	wantNoStat(t, x, "", api.ENoEnt)
	wantNoStat(t, x, "a", api.EInval)
	wantNoStat(t, x, "/x/012345678901234567890123456789012", api.ENameTooLong)
	x = rename(t, x, "/a/f", "/f", 0, 0)
	wantStat(t, x, "/f", api.Stat{Number: 4, Size: api.MaxFile, Links: 1})
}

// TestSameTree: P21.2, P21.5: where nothing changes the tree that is told is the one that was handed in.
func TestSameTree(t *testing.T) {
	x := link(t, create(t, mkdir(t, format(t), "/a"), "/f", 3), "/f", "/g")
	if y, n, made, e := name.Create(x, "/f", false); y != x || n != 3 || made || e != api.OK {
		t.Error("Create", n, made, e)
	}
	for _, c := range [][2]string{{"/f", "/f"}, {"/f", "/g"}, {"/g", "/f"}, {"/a", "/a"}, {"/a", "/a/../a/"}} {
		if y := rename(t, x, c[0], c[1], 0, 0); y != x {
			t.Error("Rename", c)
		}
	}
}

// TestRenameOver: P21.5: what stood in the place is gone, and what is told of it.
func TestRenameOver(t *testing.T) {
	x := mkdir(t, mkdir(t, mkdir(t, format(t), "/a"), "/b"), "/a/c")
	x = create(t, create(t, x, "/f", 5), "/b/g", 6)
	x = link(t, x, "/f", "/h")
	y := rename(t, x, "/b/g", "/f", 5, 1)
	wantStat(t, y, "/h", api.Stat{Number: 5, Links: 1})
	wantAs(t, "over one of two links", y, api.OK)
	y = rename(t, y, "/f", "/h", 5, 0)
	wantStat(t, y, "/h", api.Stat{Number: 6, Links: 1})
	if a, e := inode.Get(y, 5); a != (api.Inode{Number: 5}) || e != api.OK {
		t.Error("an inode without links stays", a, e)
	}
	wantAs(t, "over the last link", y, api.EInval)
	y, e := inode.Orphan(y, 5)
	wantAs(t, "with its mark", must(t, y, e), api.OK)
	y = rename(t, x, "/a/c", "/d", 0, 0)
	wantStat(t, y, "/d", api.Stat{Number: 4, Dir: true, Links: 2})
	wantStat(t, y, "/d/..", api.Stat{Number: 1, Dir: true, Links: 5})
	y = rename(t, y, "/d", "/a", 0, 0) // over an empty one
	wantStat(t, y, "/a", api.Stat{Number: 4, Dir: true, Links: 2})
	wantStat(t, y, "/", api.Stat{Number: 1, Dir: true, Links: 4})
	if _, e := inode.Get(y, 2); e != api.ErrNone {
		t.Error("the directory in whose place it is", e)
	}
	wantAs(t, "over an empty one", y, api.OK)
	wantRefused(t, "over one with entries", x, call{what: "rename", p: "/a", other: "/b"}, api.ENotEmpty)
	wantRefused(t, "over its parent", x, call{what: "rename", p: "/a/c", other: "/a"}, api.ENotEmpty)
}

// TestUnlink: P21.4: the last link's inode stays, without a name.
func TestUnlink(t *testing.T) {
	x := link(t, create(t, format(t), "/f", 2), "/f", "/g")
	for i, p := range []string{"/g", "/f"} {
		y, number, links, e := name.Unlink(x, p)
		x = must(t, y, e)
		if number != 2 || links != 1-i {
			t.Error("Unlink", number, links)
		}
		wantNoStat(t, x, p, api.ENoEnt)
		wantRefused(t, "again", x, call{what: "unlink", p: p}, api.ENoEnt)
	}
	if a, e := inode.Get(x, 2); a != (api.Inode{Number: 2}) || e != api.OK {
		t.Error("Get", a, e)
	}
	wantAs(t, "without a mark", x, api.EInval)
	x = create(t, x, "/f", 3) // a number is given once
	wantStat(t, x, "/f", api.Stat{Number: 3, Links: 1})
}

// full is a right tree whose directory /a (2) has MaxLinks, and whose file /f as many names.
func full(t *testing.T) *tree.Tree {
	t.Helper()
	x := mkdir(t, format(t), "/a")
	for i := range api.MaxLinks - 2 {
		x = mkdir(t, x, "/a/"+strconv.Itoa(i))
	}
	x = create(t, x, "/f", api.MaxLinks+1)
	x = mkdir(t, mkdir(t, x, "/b"), "/l")
	for i := range api.MaxLinks - 1 {
		x = link(t, x, "/f", "/l/"+strconv.Itoa(i))
	}
	return x
}

// TestMaxLinks: P21.3 to P21.5: EMLink, where a link more would be too many, and where it is none more.
func TestMaxLinks(t *testing.T) {
	x := full(t)
	wantStat(t, x, "/a", api.Stat{Number: 2, Dir: true, Links: api.MaxLinks})
	wantStat(t, x, "/f", api.Stat{Number: api.MaxLinks + 1, Links: api.MaxLinks})
	wantAs(t, "full", x, api.OK)
	wantRefused(t, "Mkdir", x, call{what: "mkdir", p: "/a/x"}, api.EMLink)
	wantRefused(t, "Mkdir of what is there", x, call{what: "mkdir", p: "/a/7"}, api.EExist)
	wantRefused(t, "Link", x, call{what: "link", p: "/f", other: "/g"}, api.EMLink)
	wantRefused(t, "Link to what is there", x, call{what: "link", p: "/l/3", other: "/a"}, api.EExist)
	wantRefused(t, "Link nowhere", x, call{what: "link", p: "/l/3", other: "/x/y"}, api.ENoEnt)
	wantRefused(t, "Rename", x, call{what: "rename", p: "/b", other: "/a/x"}, api.EMLink)
	wantRefused(t, "Rename over a file", link(t, create(t, x, "/a/h", api.MaxLinks+4), "/a/h", "/h"), call{what: "rename", p: "/b", other: "/a/h"}, api.ENotDir)
	wantRefused(t, "Rename of one with entries", x, call{what: "rename", p: "/l", other: "/a/x"}, api.EMLink)
	for what, y := range map[string]*tree.Tree{
		"a file in a full directory": create(t, x, "/a/x", api.MaxLinks+4),
		"a file into it":             rename(t, x, "/f", "/a/x", 0, 0),
		"within it":                  rename(t, x, "/a/7", "/a/x", 0, 0),
		"out of it":                  rename(t, x, "/a/7", "/x", 0, 0),
		"over one in it":             rename(t, x, "/b", "/a/7", 0, 0),
		"within it, over another":    rename(t, x, "/a/8", "/a/7", 0, 0),
		"a full file's other name":   rename(t, x, "/l/7", "/g", 0, 0),
		"room again":                 mkdir(t, rename(t, x, "/a/7", "/b/7", 0, 0), "/a/x"),
	} {
		wantAs(t, what, y, api.OK)
	}
	wantStat(t, rename(t, x, "/b", "/a/7", 0, 0), "/a", api.Stat{Number: 2, Dir: true, Links: api.MaxLinks})
	wantStat(t, rename(t, x, "/a/8", "/a/7", 0, 0), "/a", api.Stat{Number: 2, Dir: true, Links: api.MaxLinks - 1})
}

// TestLinksAtTheEdge: P21.3 to P21.5: one link ahead of MaxLinks there is room.
func TestLinksAtTheEdge(t *testing.T) {
	x := create(t, mkdir(t, mkdir(t, format(t), "/a"), "/b"), "/f", 4)
	for _, a := range []api.Inode{{Number: 2, Dir: true, Links: api.MaxLinks - 1, Parent: 1}, {Number: 4, Links: api.MaxLinks - 1}} {
		y, e := inode.Put(x, a)
		x = must(t, y, e)
	}
	wantStat(t, mkdir(t, x, "/a/x"), "/a", api.Stat{Number: 2, Dir: true, Links: api.MaxLinks})
	wantStat(t, rename(t, x, "/b", "/a/x", 0, 0), "/a", api.Stat{Number: 2, Dir: true, Links: api.MaxLinks})
	wantStat(t, link(t, x, "/f", "/g"), "/f", api.Stat{Number: 4, Links: api.MaxLinks})
}

// TestOrder: P21.4, P21.5, R2: where several errors apply the first one is told.
func TestOrder(t *testing.T) {
	x := create(t, mkdir(t, mkdir(t, format(t), "/a"), "/a/b"), "/f", 4)
	for c, want := range map[call]api.Errno{
		{what: "link", p: "/x", other: "a"}:                      api.ENoEnt,
		{what: "link", p: "/f/x", other: "a"}:                    api.ENotDir,
		{what: "link", p: "a", other: "/x/y"}:                    api.EInval,
		{what: "link", p: "/a", other: "a"}:                      api.EPerm,
		{what: "link", p: "/a", other: "/f"}:                     api.EPerm,
		{what: "link", p: "/f", other: "a"}:                      api.EInval,
		{what: "link", p: "/f", other: "/f/"}:                    api.EExist,
		{what: "link", p: "/f", other: "/f/."}:                   api.ENotDir,
		{what: "link", p: "/f", other: "/"}:                      api.EExist,
		{what: "rename", p: "/", other: "a"}:                     api.EBusy,
		{what: "rename", p: "/x", other: "a"}:                    api.ENoEnt,
		{what: "rename", p: "/x", other: "/"}:                    api.ENoEnt,
		{what: "rename", p: "/x/.", other: "/"}:                  api.ENoEnt,
		{what: "rename", p: "/f/.", other: "/"}:                  api.ENotDir,
		{what: "rename", p: "/f", other: "/x/y"}:                 api.ENoEnt,
		{what: "rename", p: "/f", other: "/f/y"}:                 api.ENotDir,
		{what: "rename", p: "/a", other: "/a/."}:                 api.EBusy,
		{what: "rename", p: "/a", other: "/a/b/.."}:              api.EBusy,
		{what: "rename", p: "/a", other: "/a/b"}:                 api.EInval,
		{what: "rename", p: "/a", other: "/a/b/x"}:               api.EInval,
		{what: "rename", p: "/a", other: "/a/x/y"}:               api.ENoEnt,
		{what: "rename", p: "/a/b", other: "/f"}:                 api.ENotDir,
		{what: "rename", p: "/f", other: "/a"}:                   api.EIsDir,
		{what: "create", p: "/", exclusive: true}:                api.EExist,
		{what: "create", p: "/"}:                                 api.EIsDir,
		{what: "create", p: "/a", exclusive: true}:               api.EExist,
		{what: "create", p: "/f/.", exclusive: true}:             api.ENotDir,
		{what: "create", p: "/x/..", exclusive: true}:            api.ENoEnt,
		{what: "mkdir", p: "/f"}:                                 api.EExist,
		{what: "mkdir", p: "/a/.."}:                              api.EExist,
		{what: "rmdir", p: "//"}:                                 api.EBusy,
		{what: "rmdir", p: "/."}:                                 api.EInval,
		{what: "rmdir", p: "/a/b/."}:                             api.EInval,
		{what: "rmdir", p: "/a/.."}:                              api.ENotEmpty,
		{what: "rmdir", p: "/f"}:                                 api.ENotDir,
		{what: "rmdir", p: "/f/."}:                               api.ENotDir,
		{what: "unlink", p: "/"}:                                 api.EIsDir,
		{what: "unlink", p: "/a/b"}:                              api.EIsDir,
		{what: "unlink", p: "/a/b/."}:                            api.EIsDir,
		{what: "unlink", p: "/f/.."}:                             api.ENotDir,
		{what: "mkdir", p: "/n23456789012345678901234567890123"}: api.ENameTooLong,
	} {
		wantRefused(t, "order", x, c, want)
	}
}

// TestEntriesKinds: P21.2 to P21.5: entries have the kind of what they name.
func TestEntriesKinds(t *testing.T) {
	x := create(t, mkdir(t, format(t), "/a"), "/f", 3)
	x = rename(t, rename(t, link(t, x, "/f", "/g"), "/a", "/b", 0, 0), "/f", "/b/f", 0, 0)
	for _, c := range []struct {
		in     int
		name   string
		number int
		isDir  bool
	}{{1, "b", 2, true}, {1, "g", 3, false}, {2, "f", 3, false}} {
		if n, isDir, e := dir.Get(x, c.in, c.name); n != c.number || isDir != c.isDir || e != api.OK {
			t.Error("Get", c, n, isDir, e)
		}
	}
}
