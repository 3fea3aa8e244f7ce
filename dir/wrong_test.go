package dir_test

import (
	"maps"
	"slices"
	"strings"
	"testing"

	"dedup/api"
	"dedup/dir"
	"dedup/disk"
	"dedup/tree"
)

// some is a tree that is right: entries of neighbouring directories, and keys of other layers.
func some() map[string]string {
	return map[string]string{
		keyOf(254, "a"): valueOf(9, 1), keyOf(255, "a"): valueOf(5, 1), keyOf(255, "m"): valueOf(6, 2), keyOf(255, "z"): valueOf(5, 1), keyOf(256, "a"): valueOf(7, 1),
		"c\xFF": "", "e": "",
	}
}

// TestValues: P19.1 to P19.3: values that are no entry's: Get, Names, Empty and Refs tell, List passes over; Put and Remove are of them too.
func TestValues(t *testing.T) {
	for what, value := range map[string]string{
		"no bytes":              "",
		"a number alone":        valueOf(5, 1)[:4],
		"a byte too few":        valueOf(5, 1)[1:],
		"a byte more":           valueOf(5, 1) + "\x00",
		"two values":            valueOf(5, 1) + valueOf(5, 1),
		"kind 0":                valueOf(5, 0),
		"kind 3":                valueOf(5, 3),
		"kind 255":              valueOf(5, 255),
		"inode 0":               valueOf(0, 1),
		"inode 0, a directory":  valueOf(0, 2),
		"an inode beyond":       valueOf(api.MaxNumber+1, 1),
		"the greatest inode":    valueOf(1<<32-1, 2),
		"a kind ahead":          "\x01" + valueOf(5, 1)[:4],
		"a chunk's or anyone's": "some other layer's value",
		"as long as may be":     strings.Repeat("\x01", api.MaxValue),
	} {
		l := some()
		l[keyOf(255, "m")] = value
		x := treeOf(t, l)
		wantNoGet(t, x, 255, "m", api.ErrDir)
		wantGet(t, x, 255, "a", 5, false)
		if l := listed(x, 255); !slices.Equal(l, []item{{"a", 5}, {"z", 5}}) {
			t.Error(what, "List", l)
		}
		wantNoNames(t, what, x, 255, api.ErrDir)
		wantList(t, x, 254, item{"a", 9})
		wantList(t, x, 256, item{"a", 7})
		wantRefs(t, what, x, api.ErrDir)
		y, e := dir.Put(x, 255, "m", 6, true)
		wantPairs(t, must(t, y, e), some())
		y, e = dir.Remove(x, 255, "m")
		without := maps.Clone(l)
		delete(without, keyOf(255, "m"))
		wantPairs(t, must(t, y, e), without)
		wantPairs(t, x, l)
	}
}

// TestKeys: P19.2, P19.3: keys that are no entry's, and whose names they spoil: those from the directory's key on and below the next one's. List passes over them.
func TestKeys(t *testing.T) {
	for what, c := range map[string]struct {
		key   string
		dir   int // whose names are refused: 0 none's
		refs  api.Errno
		value string
	}{
		"nothing":                    {"z", 0, api.OK, ""},
		"ahead of all":               {"c\xFF\xFF", 0, api.OK, valueOf(5, 1)},
		"another letter":             {"D" + keyOf(255, "b")[1:], 0, api.OK, valueOf(5, 1)},
		"behind all":                 {"e\x00", 0, api.OK, valueOf(5, 1)},
		"the prefix alone":           {"d", 0, api.ErrDir, valueOf(5, 1)},
		"half a number":              {"d\x00\x00\x00\x00", 0, api.ErrDir, valueOf(5, 1)},
		"a number too short":         {keyOf(256, "")[:8], 255, api.ErrDir, valueOf(5, 1)},
		"one ahead of 254's":         {keyOf(254, "")[:8], 0, api.ErrDir, valueOf(5, 1)},
		"254 without a name":         {keyOf(254, ""), 254, api.ErrDir, valueOf(5, 1)},
		"255 without a name":         {keyOf(255, ""), 255, api.ErrDir, valueOf(5, 1)},
		"255 with a dot":             {keyOf(255, "."), 255, api.ErrDir, valueOf(5, 1)},
		"255 with two dots":          {keyOf(255, ".."), 255, api.ErrDir, valueOf(5, 2)},
		"255 with a slash":           {keyOf(255, "b/c"), 255, api.ErrDir, valueOf(5, 1)},
		"255 with a byte 0":          {keyOf(255, "b\x00"), 255, api.ErrDir, valueOf(5, 1)},
		"255 with too long a name":   {keyOf(255, strings.Repeat("b", api.MaxName+1)), 255, api.ErrDir, valueOf(5, 1)},
		"255 with the longest key":   {keyOf(255, strings.Repeat("b", api.MaxKey-9)), 255, api.ErrDir, valueOf(5, 1)},
		"256 without a name":         {keyOf(256, ""), 256, api.ErrDir, valueOf(5, 1)},
		"256 with a slash":           {keyOf(256, "/"), 256, api.ErrDir, valueOf(5, 1)},
		"directory 0":                {keyOf(0, "b"), 0, api.ErrDir, valueOf(5, 1)},
		"a directory beyond":         {keyOf(api.MaxNumber+1, "b"), 0, api.ErrDir, valueOf(5, 1)},
		"a directory of 64 bits":     {keyOf(-255, "b"), 0, api.ErrDir, valueOf(5, 1)},
		"a directory of 2^32 more":   {keyOf(1<<32+255, "b"), 0, api.ErrDir, valueOf(5, 1)},
		"the last directory's":       {keyOf(api.MaxNumber, "."), api.MaxNumber, api.ErrDir, valueOf(5, 1)},
		"short, behind the last one": {keyOf(api.MaxNumber+1, "")[:6], api.MaxNumber, api.ErrDir, valueOf(5, 1)},
		"2^31 without a name":        {keyOf(api.MaxNumber+1, ""), 0, api.ErrDir, valueOf(5, 1)},
	} {
		l := some()
		l[c.key] = c.value
		x := treeOf(t, l)
		for in, want := range map[int][]item{254: {{"a", 9}}, 255: {{"a", 5}, {"m", 6}, {"z", 5}}, 256: {{"a", 7}}, 1: nil, api.MaxNumber: nil} {
			if in != c.dir {
				wantList(t, x, in, want...)
				continue
			}
			if l := listed(x, in); !slices.Equal(l, want) {
				t.Error(what, "List", in, l)
			}
			wantNoNames(t, what, x, in, api.ErrDir)
		}
		if c.refs != api.OK {
			wantRefs(t, what, x, c.refs)
		} else {
			wantRefs(t, what, x, api.OK, api.Ref{Chunk: 5, Count: 2}, api.Ref{Chunk: 6, Count: 1}, api.Ref{Chunk: 7, Count: 1}, api.Ref{Chunk: 9, Count: 1})
		}
	}
}

// TestListAgain: P19.2 with R5: List begins anew each time, may be stopped, within itself too.
func TestListAgain(t *testing.T) {
	x := treeOf(t, some())
	list := dir.List(x, 255)
	want := []string{"a", "m", "z"}
	for stop := range want {
		var got []string
		for name := range list {
			got = append(got, name)
			if len(got) == stop+1 {
				break
			}
		}
		if !slices.Equal(got, want[:stop+1]) {
			t.Error("stopped", got)
		}
	}
	for range list {
		var got []string
		for name := range list {
			got = append(got, name)
		}
		if !slices.Equal(got, want) {
			t.Error("within itself", got)
		}
	}
}

// TestNewMemory: P19.2, P19.3 with R3: lists that are answered share nothing.
func TestNewMemory(t *testing.T) {
	x := treeOf(t, some())
	a, _ := dir.Names(x, 255)
	r, _ := dir.Refs(x)
	a[0], r[0] = "?", api.Ref{}
	wantList(t, x, 255, item{"a", 5}, item{"m", 6}, item{"z", 5})
	if again, _ := dir.Refs(x); again[0] != (api.Ref{Chunk: 5, Count: 2}) {
		t.Error("Refs", again)
	}
}

// gone is a disk without some sector.
type gone struct {
	*disk.Disk
	sector int
}

func (g gone) Read(n int) ([]byte, api.Errno) {
	if n == g.sector {
		return nil, api.ErrSector
	}
	return g.Disk.Read(n)
}

// laid is a tree as it lies on a disk, its root, and the sectors of its leaves, by rising keys.
func laid(t *testing.T, l map[string]string) (*disk.Disk, int, []int) {
	t.Helper()
	x := treeOf(t, l)
	d, _ := disk.New(512, 512)
	sectors := make([]int, x.Dirty())
	for i := range sectors {
		sectors[i] = i + 1
	}
	x, nodes, e := x.Place(sectors)
	if e != api.OK || x.Height() != 2 {
		t.Fatal("Place", e, x.Height())
	}
	for _, s := range nodes {
		d.Write(s.N, s.Bytes)
	}
	return d, x.Root(), sectors[:len(sectors)-1]
}

// nameOf is the name of an entry among many, long enough for some leaves.
func nameOf(i int) string {
	return "a name of some length " + string(rune('A'+i))
}

// many is a tree of some leaves: entries of the directories 1 and 2.
func many() map[string]string {
	l := map[string]string{}
	for i := range 30 {
		l[keyOf(1, nameOf(i))], l[keyOf(2, nameOf(i))] = valueOf(i+1, 1), valueOf(i+1, 2)
	}
	return l
}

// refusals is how many calls tell ErrTree of a tree without some sector, of all names; others tell what they tell of the whole tree.
func refusals(t *testing.T, open func() *tree.Tree) int {
	t.Helper()
	count := 0
	see := func(what string, x *tree.Tree, e api.Errno) {
		t.Helper()
		if (e == api.OK) == (x == nil) || e != api.OK && e != api.ErrTree {
			t.Error(what, e)
		}
		if e != api.OK {
			count++
		}
	}
	for i := range 60 {
		in, name := 1+i/30, nameOf(i%30)
		n, isDir, e := dir.Get(open(), in, name)
		if e == api.ErrTree && n == 0 && !isDir {
			count++
		} else if e != api.OK || n != i%30+1 || isDir != (in == 2) {
			t.Error("Get", n, isDir, e)
		}
		x, e := dir.Remove(open(), in, name)
		see("Remove", x, e)
		x, e = dir.Put(open(), in, name, 77, true)
		see("Put", x, e)
	}
	return count
}

// TestBrokenTree: P19.1 to P19.3: what the tree refuses is told, whichever node can't be read; List ends there.
func TestBrokenTree(t *testing.T) {
	d, root, leaves := laid(t, many())
	if len(leaves) < 4 {
		t.Fatal("too few leaves", leaves)
	}
	some := map[int]int{} // how often List of either directory told less than all
	for _, sector := range leaves {
		open := func() *tree.Tree {
			x, e := tree.Open(512, root, gone{d, sector})
			if e != api.OK {
				t.Fatal("Open", e)
			}
			return x
		}
		for in := range 2 {
			l := listed(open(), in+1)
			for i, x := range l {
				if x != (item{nameOf(i), i + 1}) {
					t.Error("List", i, x)
				}
			}
			if len(l) < 30 {
				some[in+1]++
			}
			wantNoNames(t, "without a leaf", open(), in+1, api.ErrTree)
		}
		wantRefs(t, "without a leaf", open(), api.ErrTree)
		if n := refusals(t, open); n == 0 {
			t.Error("nothing was refused without", sector)
		}
	}
	if some[1] == 0 || some[1] == len(leaves) || some[2] == 0 || some[2] == len(leaves) {
		t.Error("List ends nowhere, or of all", some)
	}
	x, _ := tree.Open(512, root, d)
	if n := refusals(t, func() *tree.Tree { return x }); n != 0 {
		t.Error("of the whole tree refused", n)
	}
}

// TestOrderOfErrors: R2: what may not be is told ahead of what the tree refuses, that ahead of what is no entry's.
func TestOrderOfErrors(t *testing.T) {
	l := many()
	l["d"], l[keyOf(1, "")] = "", ""
	d, root, leaves := laid(t, l)
	for _, sector := range leaves[1:] {
		x, _ := tree.Open(512, root, gone{d, sector})
		wantNoNames(t, "no entry's", x, 1, api.ErrTree)
		wantRefs(t, "no entry's", x, api.ErrTree)
		wantNoNames(t, "no directory", x, 0, api.ErrArg)
		for i := range 30 {
			wantNoGet(t, x, 2, nameOf(i)+"/", api.ErrArg)
			y, e := dir.Put(x, 2, nameOf(i), 0, false)
			wantNoTree(t, "Put", y, e, api.ErrArg)
			y, e = dir.Remove(x, 2, nameOf(i)+"\x00")
			wantNoTree(t, "Remove", y, e, api.ErrArg)
		}
	}
}

// TestListAtTheCall: P19.2 with R5: List is as the tree was at the call, whatever becomes of its source.
func TestListAtTheCall(t *testing.T) {
	d, root, leaves := laid(t, many())
	x, _ := tree.Open(512, root, d)
	list := dir.List(x, 2)
	for _, sector := range leaves {
		d.Write(sector, make([]byte, 512))
	}
	count := 0
	for range list {
		count++
	}
	if count != 30 {
		t.Error("List", count)
	}
}
