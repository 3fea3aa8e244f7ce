package inode_test

import (
	"maps"
	"slices"
	"testing"

	"dedup/api"
	"dedup/disk"
	"dedup/inode"
	"dedup/tree"
)

// wrong is a key and a value beside those of a right tree, and what is told then.
type wrong struct {
	key, value string
	right      api.Errno // of Right
	orphans    api.Errno // of Orphans
}

// someRight is a tree that is right: inodes, one of them with a mark, and keys of other layers.
func someRight() map[string]string {
	return map[string]string{
		keyOf('i', 1): valueOf(2, 0, 3, 1), keyOf('i', 4): valueOf(1, 9, 0, 0), keyOf('i', 5): valueOf(1, 9, 1, 0), keyOf('i', 6): valueOf(2, 0, 2, 1),
		keyOf('o', 4): "", "s": numbers(8, 1, 1), "h\xFF": "", "j": "", "n\xFF": "", "p": "", "r\xFF": "", "t": "",
	}
}

// TestRight: P18.5, P18.4: each fault alone, and what is none.
func TestRight(t *testing.T) {
	const fault, most = api.ErrInode, api.MaxNumber
	for what, c := range map[string]wrong{
		"nothing more":              {"z", "", api.OK, api.OK},
		"one more":                  {keyOf('i', 7), valueOf(1, api.MaxFile, api.MaxLinks, 0), api.OK, api.OK},
		"the next one":              {keyOf('i', 8), valueOf(1, 0, 0, 0), fault, api.OK},
		"one behind that":           {keyOf('i', most), valueOf(1, 0, 0, 0), fault, api.OK},
		"the prefix i alone":        {"i", valueOf(1, 0, 0, 0), fault, api.OK},
		"a short inode's key":       {keyOf('i', 7)[:8], valueOf(1, 0, 0, 0), fault, api.OK},
		"a long inode's key":        {keyOf('i', 7) + "n", valueOf(1, 0, 0, 0), fault, api.OK},
		"an inode's key of two":     {keyOf('i', 7, 7), valueOf(1, 0, 0, 0), fault, api.OK},
		"inode 0":                   {keyOf('i', 0), valueOf(1, 0, 0, 0), fault, api.OK},
		"an inode too great":        {keyOf('i', most+1), valueOf(1, 0, 0, 0), fault, api.OK},
		"an inode of 64 bits":       {keyOf('i', -7), valueOf(1, 0, 0, 0), fault, api.OK},
		"no inode's value":          {keyOf('i', 7), "", fault, api.OK},
		"a mark":                    {keyOf('o', 5), "", api.OK, api.OK},
		"a mark of a directory":     {keyOf('o', 6), "", api.OK, api.OK},
		"a mark of none":            {keyOf('o', 7), "", fault, api.OK},
		"a mark of the next one":    {keyOf('o', 8), "", fault, api.OK},
		"a mark with a value":       {keyOf('o', 5), "\x00", fault, fault},
		"the prefix o alone":        {"o", "", fault, fault},
		"a short mark":              {keyOf('o', 5)[:8], "", fault, fault},
		"a long mark":               {keyOf('o', 5) + "\x00", "", fault, fault},
		"a mark of 0":               {keyOf('o', 0), "", fault, fault},
		"a mark too great":          {keyOf('o', most+1), "", fault, fault},
		"a mark of 64 bits":         {keyOf('o', -5), "", fault, fault},
		"a longer key of counters":  {"s\x00", numbers(8, 1, 1), fault, api.OK},
		"counters with a number":    {keyOf('s', 1), numbers(8, 1, 1), fault, api.OK},
		"the last key of counters":  {"s\xFF\xFF", "", fault, api.OK},
		"the least counters":        {"s", numbers(7, 1, 1), api.OK, api.OK},
		"an inode counted too low":  {"s", numbers(6, 1, 1), fault, api.OK},
		"all numbers given":         {"s", numbers(most+1, most+1, most+1), api.OK, api.OK},
		"a chunk's counter 0":       {"s", numbers(8, 0, 1), fault, api.OK},
		"a container's counter 0":   {"s", numbers(8, 1, 0), fault, api.OK},
		"a chunk's counter beyond":  {"s", numbers(8, most+2, 1), fault, api.OK},
		"a container's one beyond":  {"s", numbers(8, 1, 1<<32-1), fault, api.OK},
		"an inode's counter beyond": {"s", numbers(most+2, 1, 1), fault, api.OK},
		"counters cut short":        {"s", numbers(8, 1, 1)[:11], fault, api.OK},
		"counters with a byte more": {"s", numbers(8, 1, 1) + "\x00", fault, api.OK},
		"counters without bytes":    {"s", "", fault, api.OK},
		"another prefix ahead of i": {"h" + keyOf('i', 7)[1:], "", api.OK, api.OK},
		"another prefix ahead of o": {"n" + keyOf('o', 7)[1:], "", api.OK, api.OK},
		"another prefix ahead of s": {"rs", "", api.OK, api.OK},
		"another prefix behind s":   {"ts", "", api.OK, api.OK},
		"a capital letter":          {"I" + keyOf('i', 7)[1:], "", api.OK, api.OK},
	} {
		l := someRight()
		l[c.key] = c.value
		x := treeOf(t, l)
		if e := inode.Right(x); e != c.right {
			t.Error(what, "Right", e, "want", c.right)
		}
		if l, e := inode.Orphans(x); e != c.orphans || (len(l) > 0) != (e == api.OK) {
			t.Error(what, "Orphans", l, e, "want", c.orphans)
		}
	}
	l := someRight()
	delete(l, "s")
	if e := inode.Right(treeOf(t, l)); e != api.ErrInode {
		t.Error("without counters the next one is 1:", e)
	}
	for _, few := range []map[string]string{nil, {"s": numbers(1, 1, 1)}, {"c": "", "d": "", "k": "", "x": ""}} {
		if e := inode.Right(treeOf(t, few)); e != api.OK {
			t.Error("without inodes", e)
		}
	}
}

// TestValues: P18.1, P18.5: values of a record that are none that may be: Get tells, All passes over, Right refuses; Remove takes them away.
func TestValues(t *testing.T) {
	const file, links, most = api.MaxFile, api.MaxLinks, api.MaxNumber
	right := valueOf(1, 9, 1, 0)
	for what, value := range map[string]string{
		"no bytes":              "",
		"a kind alone":          "\x01",
		"kind 0":                valueOf(0, 0, 0, 0),
		"kind 3":                valueOf(3, 0, 0, 0),
		"kind 255":              valueOf(255, 0, 0, 0),
		"a byte too few":        right[:12],
		"a byte more":           right + "\x00",
		"a size beyond":         valueOf(1, file+1, 0, 0),
		"a great size":          valueOf(1, 1<<32-1, 0, 0),
		"links beyond":          valueOf(1, 0, links+1, 0),
		"many links":            valueOf(1, 0, 1<<32-1, 0),
		"a file with a parent":  valueOf(1, 0, 0, 1),
		"a directory's size":    valueOf(2, 1, 0, 1),
		"a directory's links":   valueOf(2, 0, links+1, 1),
		"no parent":             valueOf(2, 0, 0, 0),
		"a parent beyond":       valueOf(2, 0, 0, most+1),
		"a great parent":        valueOf(2, 0, 0, 1<<32-1),
		"a chunk's or anyone's": "some other layer's value",
	} {
		l := someRight()
		l[keyOf('i', 5)] = value
		x := treeOf(t, l)
		wantGet(t, what, x, 5, api.Inode{}, api.ErrInode)
		wantAll(t, what, x, aDir(1, 3, 1), aFile(4, 9, 0), aDir(6, 2, 1))
		if e := inode.Right(x); e != api.ErrInode {
			t.Error(what, "Right", e)
		}
		y, a, e := inode.Link(x, 5, 1)
		wantNoTree(t, what, y, e, api.ErrInode)
		if a != (api.Inode{}) {
			t.Error(what, "Link", a)
		}
		y, e = inode.Orphan(x, 5)
		wantNoTree(t, what, y, e, api.ErrInode)
		wantPairs(t, x, l)
		y, e = inode.Put(x, aFile(5, 9, 1))
		wantPairs(t, must(t, y, e), someRight())
		y, e = inode.Remove(x, 5)
		delete(l, keyOf('i', 5))
		wantPairs(t, must(t, y, e), l)
	}
}

// TestAllAgain: P18.1 with R5: All passes over keys that are none, begins anew each time, may be stopped, within itself too.
func TestAllAgain(t *testing.T) {
	l := someRight()
	for _, key := range []string{"i", keyOf('i', 4)[:8], keyOf('i', 4) + "n", keyOf('i', 4, 4), keyOf('i', 0), keyOf('i', api.MaxNumber+1), keyOf('i', -1)} {
		l[key] = valueOf(1, 0, 0, 0)
	}
	want := []api.Inode{aDir(1, 3, 1), aFile(4, 9, 0), aFile(5, 9, 1), aDir(6, 2, 1)}
	all := inode.All(treeOf(t, l))
	for stop := range want {
		var got []api.Inode
		for a := range all {
			got = append(got, a)
			if len(got) == stop+1 {
				break
			}
		}
		if !slices.Equal(got, want[:stop+1]) {
			t.Error("stopped", got)
		}
	}
	for range all {
		if got := slices.Collect(all); !slices.Equal(got, want) {
			t.Error("within itself", got)
		}
	}
}

// gone is a disk without some sector.
type gone struct {
	*disk.Disk
	sector int
}

func (g gone) Read(n int) ([]byte, api.Errno) {
	if n == g.sector {
		return nil, api.ErrSector
	}
	return g.Disk.Read(n)
}

// laid is a tree as it lies on a disk, its root, and the sectors of its leaves, by rising keys.
func laid(t *testing.T, l map[string]string) (*disk.Disk, int, []int) {
	t.Helper()
	x := treeOf(t, l)
	d, _ := disk.New(512, 512)
	sectors := make([]int, x.Dirty())
	for i := range sectors {
		sectors[i] = i + 1
	}
	x, nodes, e := x.Place(sectors)
	if e != api.OK || x.Height() != 2 {
		t.Fatal("Place", e, x.Height())
	}
	for _, s := range nodes {
		d.Write(s.N, s.Bytes)
	}
	return d, x.Root(), sectors[:len(sectors)-1]
}

// many is a tree of some leaves: files from 1 on, all of them with marks.
func many() map[string]string {
	l := map[string]string{"s": numbers(61, 1, 1)}
	for i := range 60 {
		l[keyOf('i', i+1)], l[keyOf('o', i+1)] = valueOf(1, i, 0, 0), ""
	}
	return l
}

// refusals is how many calls tell ErrTree of a tree without some sector, of all numbers; others tell what they tell of the whole tree.
func refusals(t *testing.T, open func() *tree.Tree) int {
	t.Helper()
	count := 0
	see := func(what string, x *tree.Tree, e api.Errno) {
		t.Helper()
		if (e == api.OK) == (x == nil) || e != api.OK && e != api.ErrTree {
			t.Error(what, e)
		}
		if e != api.OK {
			count++
		}
	}
	for i := range 60 {
		a, e := inode.Get(open(), i+1)
		if e == api.ErrTree && a == (api.Inode{}) {
			count++
		} else if e != api.OK || a != aFile(i+1, i, 0) {
			t.Error("Get", a, e)
		}
		x, e := inode.Remove(open(), i+1)
		see("Remove", x, e)
		x, e = inode.Put(open(), aFile(i+1, i, 2))
		see("Put", x, e)
		x, a, e = inode.Link(open(), i+1, 1)
		if see("Link", x, e); (a == api.Inode{}) != (e != api.OK) {
			t.Error("Link", a, e)
		}
		x, e = inode.Orphan(open(), i+1)
		see("Orphan", x, e)
		x, e = inode.Adopt(open(), i+1)
		see("Adopt", x, e)
	}
	x, a, e := inode.New(open(), false, 0)
	if see("New", x, e); (a == api.Inode{}) != (e != api.OK) {
		t.Error("New", a, e)
	}
	x, e = inode.SetCounters(open(), 99, 1, 1)
	see("SetCounters", x, e)
	if n, _, _, e := inode.Counters(open()); n == 0 {
		see("Counters", nil, e)
	}
	return count
}

// TestBrokenTree: P18.1 to P18.5: what the tree refuses is told, whichever node can't be read; All ends there.
func TestBrokenTree(t *testing.T) {
	d, root, leaves := laid(t, many())
	if len(leaves) < 5 {
		t.Fatal("too few leaves", leaves)
	}
	all := 0
	for _, sector := range leaves {
		open := func() *tree.Tree {
			x, e := tree.Open(512, root, gone{d, sector})
			if e != api.OK {
				t.Fatal("Open", e)
			}
			return x
		}
		if e := inode.Right(open()); e != api.ErrTree {
			t.Error("Right", e)
		}
		if l, e := inode.Orphans(open()); len(l) != 0 || e != api.ErrTree {
			t.Error("Orphans", l, e)
		}
		l := slices.Collect(inode.All(open()))
		for i, a := range l {
			if a != aFile(i+1, i, 0) {
				t.Error("All", i, a)
			}
		}
		if len(l) == 60 {
			all++
		}
		if n := refusals(t, open); n == 0 {
			t.Error("nothing was refused without", sector)
		}
	}
	if all == 0 || all == len(leaves) {
		t.Error("All ends nowhere, or ahead of all", all)
	}
	x, _ := tree.Open(512, root, d)
	if n := refusals(t, func() *tree.Tree { return x }); n != 0 || inode.Right(x) != api.OK {
		t.Error("of the whole tree refused", n)
	}
}

// TestTreeAheadOfInode: P18.4, P18.5 with R2: what the tree refuses is named ahead of what is no inode's and no mark's.
func TestTreeAheadOfInode(t *testing.T) {
	l := many()
	l["i"], l["o"] = "", "?"
	d, root, leaves := laid(t, l)
	x, _ := tree.Open(512, root, gone{d, leaves[len(leaves)-1]})
	if e := inode.Right(x); e != api.ErrTree {
		t.Error("Right", e)
	}
	if l, e := inode.Orphans(x); len(l) != 0 || e != api.ErrTree {
		t.Error("Orphans", l, e)
	}
}

// TestAllAtTheCall: P18.1 with R5: All is as the tree was at the call, whatever becomes of its source.
func TestAllAtTheCall(t *testing.T) {
	d, root, leaves := laid(t, many())
	x, _ := tree.Open(512, root, d)
	all := inode.All(x)
	for _, sector := range leaves {
		d.Write(sector, make([]byte, 512))
	}
	if l := slices.Collect(all); len(l) != 60 {
		t.Error("All", len(l))
	}
}

// TestStay: P18.1 to P18.4: whatever is asked, the tree stays as it is, of files, directories and none.
func TestStay(t *testing.T) {
	l := someRight()
	x := treeOf(t, l)
	was := maps.Clone(l)
	for number := range 9 {
		inode.Get(x, number)
		inode.Put(x, aFile(number, 1, 1))
		inode.New(x, number > 0, number)
		inode.Remove(x, number)
		inode.Link(x, number, 2)
		inode.Orphan(x, number)
		inode.Adopt(x, number)
		inode.SetCounters(x, number, 5, 5)
		wantPairs(t, x, was)
	}
}
