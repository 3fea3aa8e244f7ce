package name_test

import (
	"maps"
	"math/rand"
	"testing"

	"dedup/api"
	"dedup/disk"
	"dedup/name"
	"dedup/tree"
)

// gone is a disk without some sector.
type gone struct {
	*disk.Disk
	sector int
}

func (g gone) Read(n int) ([]byte, api.Errno) {
	if n == g.sector {
		return nil, api.ErrSector
	}
	return g.Disk.Read(n)
}

// laid is a tree as it lies on a disk, its root, and the sectors of its other nodes.
func laid(t *testing.T, x *tree.Tree) (*disk.Disk, int, []int) {
	t.Helper()
	d, _ := disk.New(512, 512)
	sectors := make([]int, x.Dirty())
	for i := range sectors {
		sectors[i] = i + 1
	}
	x, nodes, e := x.Place(sectors)
	if e != api.OK {
		t.Fatal("Place", e)
	}
	for _, s := range nodes {
		d.Write(s.N, s.Bytes)
	}
	return d, x.Root(), sectors[:len(sectors)-1]
}

// broad is a right tree of many leaves.
func broad(t *testing.T) *tree.Tree {
	t.Helper()
	x, number := format(t), 2
	for _, a := range []string{"/a name of some length", "/b", "/c name"} {
		x = mkdir(t, x, a)
		number++
		for _, b := range []string{"/some", "/another name that is long", "/name"} {
			x = mkdir(t, x, a+b)
			x = create(t, x, a+b+"/f", number+1)
			x = link(t, x, a+b+"/f", a+b+"f")
			number += 2
		}
	}
	return x
}

// allCalls is calls of all kinds of paths that broad has and has not.
func allCalls() []call {
	var l []call
	paths := []string{"/", "/b", "/b/name/../name/f", "/a name of some length/some", "/a name of some length/name/f", "/c name/another name that is longf", "/c name/x", "/b/some/x", "/x"}
	for _, p := range paths {
		for _, what := range []string{"stat", "create", "mkdir", "rmdir", "unlink"} {
			l = append(l, call{what: what, p: p})
		}
		l = append(l, call{what: "create", p: p, exclusive: true})
		for _, other := range paths {
			l = append(l, call{what: "link", p: p, other: other}, call{what: "rename", p: p, other: other})
		}
	}
	return l
}

// TestBrokenTree: P21.1 to P21.6: what the tree refuses is told, whichever node can't be read; where none of those is wanted all is as of the whole tree.
func TestBrokenTree(t *testing.T) {
	whole := broad(t)
	d, root, nodes := laid(t, whole)
	refused, done := map[string]int{}, map[string]int{}
	for _, sector := range nodes {
		for _, c := range allCalls() {
			x, e := tree.Open(512, root, gone{d, sector})
			if e != api.OK {
				t.Fatal("Open", e)
			}
			y, got := c.ofTree(x)
			if got.e == api.ErrTree {
				refused[c.what]++
				if y != nil || got != (told{e: api.ErrTree}) {
					t.Error(c, got)
				}
				continue
			}
			done[c.what]++
			if _, want := c.ofTree(whole); got != want {
				t.Error(c, got, "want", want)
			}
		}
		x, _ := tree.Open(512, root, gone{d, sector})
		wantAs(t, "without a node", x, api.ErrTree)
	}
	for _, what := range []string{"stat", "create", "mkdir", "rmdir", "link", "unlink", "rename"} {
		if refused[what] == 0 || done[what] == 0 {
			t.Error(what, refused[what], done[what])
		}
	}
}

// TestFormatBroken: P21.1: a tree of which no key can be read is ErrTree; a key that can be is told first.
func TestFormatBroken(t *testing.T) {
	d, root, nodes := laid(t, broad(t))
	for i, sector := range nodes {
		x, _ := tree.Open(512, root, gone{d, sector})
		want := api.ErrArg
		if i == 0 {
			want = api.ErrTree
		}
		if y, e := name.Format(x); y != nil || e != want {
			t.Error("Format", i, e, "want", want)
		}
	}
}

// TestWrong: P21.1 to P21.5: what lower layers refuse of inodes, entries and counters is told, but behind what is named ahead of it; what is not there leads nowhere.
func TestWrong(t *testing.T) {
	type m = map[string]string
	counters, beyond := m{"s": "?"}, m{"s": numbers(api.MaxNumber+1, 1, 1)}
	noFile, noEntry, noInode := m{keyOf('i', 5): "?"}, m{entry(1, "f"): "?"}, m{keyOf('i', 5): absent}
	noDir, noC := m{keyOf('i', 2): "?"}, m{keyOf('i', 4): absent}
	noRoot, badRoot, fileRoot := m{keyOf('i', 1): absent}, m{keyOf('i', 1): "?"}, m{keyOf('i', 1): inodeText(1, 0, 0, 0)}
	noLinks := m{keyOf('i', 1): inodeText(2, 0, 0, 1), keyOf('i', 5): inodeText(1, 0, 0, 0)}
	for _, c := range []struct {
		l    m
		call call
		want api.Errno
	}{
		{counters, call{what: "create", p: "/x"}, api.ErrInode},
		{counters, call{what: "mkdir", p: "/x"}, api.ErrInode},
		{counters, call{what: "mkdir", p: "/a"}, api.EExist},
		{beyond, call{what: "create", p: "/x"}, api.ErrFull},
		{beyond, call{what: "mkdir", p: "/x"}, api.ErrFull},
		{beyond, call{what: "create", p: "/f", exclusive: true}, api.EExist},
		{noFile, call{what: "stat", p: "/f"}, api.ErrInode},
		{noFile, call{what: "stat", p: "/f/x"}, api.ErrInode},
		{noFile, call{what: "create", p: "/f"}, api.ErrInode},
		{noFile, call{what: "create", p: "/f", exclusive: true}, api.EExist},
		{noFile, call{what: "mkdir", p: "/f"}, api.EExist},
		{noFile, call{what: "rmdir", p: "/f"}, api.ErrInode},
		{noFile, call{what: "unlink", p: "/f"}, api.ErrInode},
		{noFile, call{what: "link", p: "/f", other: "/x"}, api.ErrInode},
		{noFile, call{what: "link", p: "/b/g", other: "/f"}, api.EExist},
		{noFile, call{what: "rename", p: "/f", other: "/x"}, api.ErrInode},
		{noFile, call{what: "rename", p: "/f", other: "/x/y"}, api.ENoEnt},
		{noFile, call{what: "rename", p: "/f", other: "/"}, api.EBusy},
		{noFile, call{what: "rename", p: "/b/g", other: "/f"}, api.ErrInode},
		{noEntry, call{what: "stat", p: "/f"}, api.ErrDir},
		{noEntry, call{what: "stat", p: "/f/x"}, api.ErrDir},
		{noEntry, call{what: "create", p: "/f", exclusive: true}, api.ErrDir},
		{noEntry, call{what: "mkdir", p: "/f"}, api.ErrDir},
		{noEntry, call{what: "mkdir", p: "/f/x"}, api.ErrDir},
		{noEntry, call{what: "rmdir", p: "/f"}, api.ErrDir},
		{noEntry, call{what: "unlink", p: "/f"}, api.ErrDir},
		{noEntry, call{what: "link", p: "/b/g", other: "/f"}, api.ErrDir},
		{noEntry, call{what: "rename", p: "/f", other: "/x"}, api.ErrDir},
		{noEntry, call{what: "rename", p: "/b/g", other: "/f"}, api.ErrDir},
		{m{entry(4, "n"): "?"}, call{what: "rmdir", p: "/a/c"}, api.ErrDir},
		{m{entry(4, "n"): "?"}, call{what: "rename", p: "/b", other: "/a/c"}, api.ErrDir},
		{noInode, call{what: "stat", p: "/f"}, api.ENoEnt},
		{noInode, call{what: "stat", p: "/f/x"}, api.ENoEnt},
		{noInode, call{what: "create", p: "/f"}, api.ENoEnt},
		{noInode, call{what: "create", p: "/f", exclusive: true}, api.EExist},
		{noInode, call{what: "unlink", p: "/f"}, api.ENoEnt},
		{noInode, call{what: "link", p: "/f", other: "/x"}, api.ENoEnt},
		{noInode, call{what: "rename", p: "/f", other: "/x"}, api.ENoEnt},
		{noInode, call{what: "rename", p: "/b/g", other: "/f"}, api.ENoEnt},
		{noDir, call{what: "stat", p: "/a/.."}, api.ErrInode},
		{noDir, call{what: "mkdir", p: "/a/x"}, api.ErrInode},
		{noDir, call{what: "rename", p: "/b/g", other: "/a/c/x"}, api.ErrInode},
		{noC, call{what: "rmdir", p: "/a/c"}, api.ENoEnt},
		{noC, call{what: "stat", p: "/a/c/."}, api.ENoEnt},
		{noRoot, call{what: "stat", p: "/"}, api.ENoEnt},
		{noRoot, call{what: "mkdir", p: "/x"}, api.ENoEnt},
		{noRoot, call{what: "mkdir", p: "x"}, api.EInval},
		{badRoot, call{what: "stat", p: "/"}, api.ErrInode},
		{badRoot, call{what: "rename", p: "/a", other: "/x"}, api.ErrInode},
		{fileRoot, call{what: "stat", p: "/a"}, api.ENotDir},
		{fileRoot, call{what: "rmdir", p: "/"}, api.ENotDir},
		{fileRoot, call{what: "mkdir", p: "/x"}, api.ENotDir},
		{noLinks, call{what: "rmdir", p: "/b"}, api.ENotEmpty},
		{noLinks, call{what: "unlink", p: "/f"}, api.ErrFull},
		{noLinks, call{what: "rename", p: "/b/g", other: "/f"}, api.ErrFull},
		{noLinks, call{what: "rename", p: "/b", other: "/a/x"}, api.ErrFull},
	} {
		wantRefused(t, "wrong", treeOf(t, with(c.l)), c.call, c.want)
	}
	x := treeOf(t, with(beyond))
	if y, n, made, e := name.Create(x, "/f", false); y != x || n != 5 || made || e != api.OK {
		t.Error("without numbers a file that is there", n, made, e)
	}
	last := create(t, treeOf(t, with(m{"s": numbers(api.MaxNumber, 1, 1)})), "/x", api.MaxNumber)
	wantStat(t, last, "/x", api.Stat{Number: api.MaxNumber, Links: 1})
	wantRefused(t, "the last number is given", last, call{what: "mkdir", p: "/y"}, api.ErrFull)
}

// TestRings: P21.5: parents are climbed up to one that is not there, or was met already; what can't be read on the way is told.
func TestRings(t *testing.T) {
	type m = map[string]string
	for what, c := range map[string]struct {
		l    m
		want api.Errno
	}{
		"as it is":                {nil, api.OK},
		"its own parent":          {m{keyOf('i', 4): inodeText(2, 0, 2, 4)}, api.OK},
		"a ring":                  {m{keyOf('i', 4): inodeText(2, 0, 2, 8), keyOf('i', 8): inodeText(2, 0, 2, 4)}, api.OK},
		"a ring through b":        {m{keyOf('i', 4): inodeText(2, 0, 2, 8), keyOf('i', 8): inodeText(2, 0, 2, 3)}, api.EInval},
		"a parent not there":      {m{keyOf('i', 4): inodeText(2, 0, 2, 99)}, api.OK},
		"a parent that is a file": {m{keyOf('i', 4): inodeText(2, 0, 2, 7)}, api.OK},
		"the root's parent":       {m{keyOf('i', 1): inodeText(2, 0, 4, 3)}, api.OK},
		"one that can't be read":  {m{keyOf('i', 4): inodeText(2, 0, 2, 7), keyOf('i', 7): "?"}, api.ErrInode},
	} {
		x := treeOf(t, with(c.l))
		if y, n, links, e := name.Rename(x, "/b", "/a/c/x"); e != c.want || n != 0 || links != 0 || (y == nil) != (e != api.OK) {
			t.Error(what, n, links, e, "want", c.want)
		}
		if y, n, links, e := name.Rename(x, "/f", "/a/c/x"); n != 0 || links != 0 || y == nil || e != api.OK {
			t.Error(what, "of a file", n, links, e)
		}
	}
	x := treeOf(t, with(m{entry(4, "r"): entryText(1, 2)}))
	wantRefused(t, "the root has a name", x, call{what: "rename", p: "/a/c/r", other: "/x"}, api.EInval)
}

// TestAnyTree: R1, R2: of any inodes and entries each call ends, tells nothing beside an error, and leaves the tree as it is.
func TestAnyTree(t *testing.T) {
	r := rand.New(rand.NewSource(211))
	for range 3000 {
		l := some()
		for range 3 + r.Intn(12) {
			disturb(r, l)
		}
		x := treeOf(t, l)
		for range 4 {
			c := call{[]string{"stat", "create", "mkdir", "rmdir", "link", "unlink", "rename"}[r.Intn(7)], tangled(r), tangled(r), r.Intn(2) == 0}
			y, got := c.ofTree(x)
			if (y == nil) != (got.e != api.OK) || got.e != api.OK && got != (told{e: got.e}) {
				t.Fatal(c, got)
			}
			if y != nil && y.Check() != api.OK {
				t.Fatal(c, "a tree that is none")
			}
		}
		if !maps.Equal(maps.Collect(x.Scan("", "")), l) {
			t.Fatal("the tree is another one")
		}
	}
}

// tangled is a path of the names that disturb gives.
func tangled(r *rand.Rand) string {
	text := "/"
	for range 1 + r.Intn(4) {
		text += []string{"a", "b", "c", "f", "g", "n", ".", ".."}[r.Intn(8)] + "/"
	}
	return text
}
