package fsck_test

import (
	"encoding/binary"
	"slices"
	"testing"

	"dedup/api"
	"dedup/codec"
	"dedup/fs"
	"dedup/journal"
	"dedup/layout"
	"dedup/node"
	"dedup/tree"
	"dedup/vol"
)

// key is the key of a prefix and numbers.
func key(prefix byte, numbers ...int) string {
	k := []byte{prefix}
	for _, n := range numbers {
		k = binary.BigEndian.AppendUint64(k, uint64(n))
	}
	return string(k)
}

// numbers is numbers of 32 bits, one behind the other.
func numbers(l ...int) string {
	var b []byte
	for _, n := range l {
		b = binary.BigEndian.AppendUint32(b, uint32(n))
	}
	return string(b)
}

// change makes another tree of one.
type change func(t *testing.T, u *tree.Tree) *tree.Tree

// put gives a key a value.
func put(key, value string) change {
	return func(t *testing.T, u *tree.Tree) *tree.Tree {
		t.Helper()
		u, e := u.Put(key, value)
		if e != api.OK {
			t.Fatal("Put", e)
		}
		return u
	}
}

// remove takes a key away that is there.
func remove(key string) change {
	return func(t *testing.T, u *tree.Tree) *tree.Tree {
		t.Helper()
		if _, there, _ := u.Get(key); !there {
			t.Fatalf("no key %q", key)
		}
		u, _ = u.Delete(key)
		return u
	}
}

// edit changes the value of a key that is there.
func edit(key string, by func(b []byte)) change {
	return func(t *testing.T, u *tree.Tree) *tree.Tree {
		t.Helper()
		value, there, _ := u.Get(key)
		if !there {
			t.Fatalf("no key %q", key)
		}
		b := []byte(value)
		by(b)
		return put(key, string(b))(t, u)
	}
}

// number is an edit of the 32 bits from a place on.
func number(key string, at, n int) change {
	return edit(key, func(b []byte) { binary.BigEndian.PutUint32(b[at:], uint32(n)) })
}

// all does one change behind the other.
func all(l ...change) change {
	return func(t *testing.T, u *tree.Tree) *tree.Tree {
		t.Helper()
		for _, c := range l {
			u = c(t, u)
		}
		return u
	}
}

// fault is a change, and the part that is not right then, and why.
type fault struct {
	change change
	part   int
	why    api.Errno
}

// keyFaults: of keys, inodes, names.
func keyFaults() map[string]fault {
	file := func(size, links int) string { return "\x01" + numbers(size, links, 0) }
	dir := func(links, parent int) string { return "\x02" + numbers(0, links, parent) }
	return map[string]fault{
		"nothing":                          {all(), 0, api.OK},
		"a key of nobody":                  {put("z", ""), api.PartKeys, api.ErrVolume},
		"a key below all":                  {put("\x00", ""), api.PartKeys, api.ErrVolume},
		"a key above all":                  {put("\xff", ""), api.PartKeys, api.ErrVolume},
		"a key between":                    {put("ab", ""), api.PartKeys, api.ErrVolume},
		"keys ahead of inodes":             {all(put("e", ""), put("i", "")), api.PartKeys, api.ErrVolume},
		"an inode's key":                   {put("i", file(0, 0)), api.PartInodes, api.ErrInode},
		"an inode's value":                 {put(key('i', 2), "x"), api.PartInodes, api.ErrInode},
		"an inode that may not be":         {number(key('i', 2), 1, api.MaxFile+1), api.PartInodes, api.ErrInode},
		"an inode that was not given":      {put(key('i', 6), file(0, 1)), api.PartInodes, api.ErrInode},
		"an orphan's mark of none":         {put(key('o', 9), ""), api.PartInodes, api.ErrInode},
		"an orphan's mark's value":         {put(key('o', 5), "x"), api.PartInodes, api.ErrInode},
		"counters":                         {put("s", "x"), api.PartInodes, api.ErrInode},
		"a longer key of counters":         {put("sx", ""), api.PartInodes, api.ErrInode},
		"inodes ahead of names":            {all(put("sx", ""), remove(key('d', 1)+"f")), api.PartInodes, api.ErrInode},
		"no root":                          {remove(key('i', 1)), api.PartNames, api.ENoEnt},
		"an entry's key":                   {put("d", ""), api.PartNames, api.ErrDir},
		"an entry's value":                 {put(key('d', 1)+"f", "x"), api.PartNames, api.ErrDir},
		"an entry's name":                  {put(key('d', 1)+"..", numbers(2)+"\x01"), api.PartNames, api.ErrDir},
		"a file's links":                   {put(key('i', 2), file(10, 1)), api.PartNames, api.EInval},
		"a directory's links":              {put(key('i', 3), dir(3, 1)), api.PartNames, api.EInval},
		"a directory's parent":             {put(key('i', 3), dir(2, 3)), api.PartNames, api.EInval},
		"the root's parent":                {put(key('i', 1), dir(3, 3)), api.PartNames, api.EInval},
		"an entry of the other kind":       {put(key('d', 1)+"f", numbers(2)+"\x02"), api.PartNames, api.EInval},
		"an entry of none":                 {put(key('d', 1)+"x", numbers(9)+"\x01"), api.PartNames, api.EInval},
		"an entry in none":                 {put(key('d', 9)+"x", numbers(2)+"\x01"), api.PartNames, api.EInval},
		"no entry":                         {remove(key('d', 1) + "f"), api.PartNames, api.EInval},
		"a mark of a file with links":      {put(key('o', 2), ""), api.PartNames, api.EInval},
		"a file without links, and a mark": {remove(key('o', 5)), api.PartNames, api.EInval},
		"names ahead of extents":           {all(remove(key('o', 5)), put("x", "")), api.PartNames, api.EInval},
	}
}

// contentFaults: of extents, chunks, containers.
func contentFaults() map[string]fault {
	return map[string]fault{
		"an extent's key":               {put("x", numbers(1, 10)), api.PartExtents, api.ErrExtent},
		"an extent's longer key":        {put(key('x', 2, 10)+"x", numbers(1, 10)), api.PartExtents, api.ErrExtent},
		"an extent's value":             {put(key('x', 2, 0), "x"), api.PartExtents, api.ErrExtent},
		"an extent that meets another":  {put(key('x', 2, 5), numbers(1, 10)), api.PartExtents, api.ErrExtent},
		"an extent that may not be":     {put(key('x', 2, api.MaxFile-9), numbers(1, 10)), api.PartExtents, api.ErrExtent},
		"an extent of no inode":         {put(key('x', 9, 0), numbers(1, 10)), api.PartExtents, api.ErrExtent},
		"an extent of the inode 0":      {put(key('x', 0, 0), numbers(1, 10)), api.PartExtents, api.ErrExtent},
		"an extent of a directory":      {put(key('x', 3, 0), numbers(1, 10)), api.PartExtents, api.ErrExtent},
		"extents ahead of chunks":       {all(put(key('x', 3, 0), numbers(1, 10)), put("c", "")), api.PartExtents, api.ErrExtent},
		"a chunk's key":                 {put("c", ""), api.PartChunks, api.ErrChunk},
		"a chunk's value":               {put(key('c', 1), "x"), api.PartChunks, api.ErrChunk},
		"a container's key":             {put("k", ""), api.PartChunks, api.ErrChunk},
		"a container's value":           {put(key('k', 1), "x"), api.PartChunks, api.ErrChunk},
		"more live slots than slots":    {number(key('k', 1), 4, 1), api.PartChunks, api.ErrChunk},
		"an extent above the size":      {number(key('i', 2), 1, 9), api.PartChunks, api.ErrExtent},
		"records ahead of extents":      {all(number(key('i', 2), 1, 9), put("c", "")), api.PartChunks, api.ErrChunk},
		"container 0 ahead of extents":  {all(number(key('i', 2), 1, 9), number(key('c', 1), 32, 0)), api.PartChunks, api.ErrChunk},
		"a high one ahead of extents":   {all(number(key('i', 2), 1, 9), number(key('c', 1), 32, 1<<31)), api.PartChunks, api.ErrChunk},
		"another one behind extents":    {all(number(key('i', 2), 1, 9), number(key('c', 1), 32, 1<<31-1)), api.PartChunks, api.ErrExtent},
		"an extent above ahead of Live": {all(number(key('i', 2), 1, 9), number(key('k', 1), 8, 0)), api.PartChunks, api.ErrExtent},
		"an extent of no chunk":         {put(key('x', 2, 0), numbers(999, 10)), api.PartChunks, api.ErrChunk},
		"an extent shorter than it":     {put(key('x', 2, 0), numbers(1, 9)), api.PartChunks, api.ErrChunk},
		"no chunk":                      {remove(key('c', 1)), api.PartChunks, api.ErrChunk},
		"a chunk's container":           {number(key('c', 1), 32, 999), api.PartChunks, api.ErrChunk},
		"a chunk's container 0":         {number(key('c', 1), 32, 0), api.PartChunks, api.ErrChunk},
		"a chunk's place":               {number(key('c', 1), 36, 99), api.PartChunks, api.ErrChunk},
		"a chunk's length":              {number(key('c', 1), 40, 9), api.PartChunks, api.ErrChunk},
		"a chunk's sum":                 {edit(key('c', 1), func(b []byte) { b[0]++ }), api.PartChunks, api.ErrChunk},
		"more Refs":                     {number(key('c', 1), 44, 3), api.PartChunks, api.ErrChunk},
		"fewer Refs":                    {number(key('c', 1), 44, 1), api.PartChunks, api.ErrChunk},
		"no container":                  {remove(key('k', 1)), api.PartChunks, api.ErrChunk},
		"fewer Live":                    {number(key('k', 1), 8, 1), api.PartChunks, api.ErrChunk},
		"more slots":                    {number(key('k', 1), 4, 999), 0, api.OK},
		"a container without a slot":    {put(key('k', 99), numbers(40, 0, 0)), api.PartChunks, api.ErrChunk}, // its number was not given
		"one whose number was given":    {all(put(key('k', 99), numbers(40, 0, 0)), number("s", 8, 100)), 0, api.OK},
		"one with Live":                 {all(put(key('k', 99), numbers(40, 1, 1)), number("s", 8, 100)), api.PartChunks, api.ErrChunk},
		"the next container's number":   {number("s", 8, 1), api.PartChunks, api.ErrChunk},
		"the next chunk's number":       {number("s", 4, 5), api.PartChunks, api.ErrChunk},
		"no number left":                {put("s", numbers(1<<31, 1<<31, 1<<31)), 0, api.OK},
	}
}

// TestFaults: P28.1, P28.2: what is told of each thing that is not right, whether it lies in the superblock's tree or in the journal; of several the first part.
func TestFaults(t *testing.T) {
	s := someShape(96)
	s.Journal = 20
	image := imageOf(filled(t, s))
	for _, faults := range []map[string]fault{keyFaults(), contentFaults()} {
		for what, x := range faults {
			u := x.change(t, treeOf(t, 512, image))
			want(t, what+", in the tree", 512, laid(t, 512, image, u), x.part, x.why)
			want(t, what+", in the journal", 512, changed(t, 512, image, u), x.part, x.why)
		}
	}
}

// TestBytes: P28.1: bytes of chunks that are not what they were, and of other sectors, which nobody has.
func TestBytes(t *testing.T) {
	f := filled(t, someShape(96))
	image := imageOf(f)
	l, _ := f.Volume().Book().Containers()
	for x := range f.Volume().Book().Chunks() {
		k := l[slices.IndexFunc(l, func(k api.Container) bool { return k.Id == x.Container })]
		turned := slices.Clone(image)
		turned[k.First*512+x.Offset] ^= 4
		want(t, "a chunk", 512, turned, api.PartChunks, api.ErrChunk)
	}
	sp := f.Volume().Book().Space()
	for n := 6; n < 96; n++ {
		if !sp.Has(n) {
			want(t, "a free sector", 512, with(image, n, []byte(some(512, n))), 0, api.OK)
		}
	}
	want(t, "no journal", 512, with(image, 2, []byte(some(512, 1))), 0, api.OK)
}

// nodeSector is a node's bytes.
func nodeSector(t *testing.T, n api.Node) []byte {
	t.Helper()
	b, e := node.Encode(512, n)
	if e != api.OK {
		t.Fatal("Encode", e)
	}
	return b
}

// TestTree: P28.1: roots that are none, nodes that are not in their place or not big enough.
func TestTree(t *testing.T) {
	f := filled(t, someShape(96))
	image := imageOf(f)
	base := treeOf(t, 512, image)
	nodes, e := base.Sectors()
	if e != api.OK || len(nodes) < 4 || base.Height() < 2 {
		t.Fatal("nodes", nodes, e)
	}
	for _, n := range nodes {
		want(t, "zeros", 512, with(image, n, make([]byte, 512)), api.PartTree, api.ErrTree)
		turned := slices.Clone(image)
		turned[n*512+30] ^= 1
		want(t, "a turned bit", 512, turned, api.PartTree, api.ErrTree)
	}
	x := superOf(t, 512, image)
	x.Root = 90
	want(t, "another root", 512, withSuper(t, image, x), api.PartTree, api.ErrTree)
	leaf := nodeSector(t, api.Node{Leaf: true, Keys: []string{"a"}, Values: []string{""}})
	small := with(with(with(image, 90, nodeSector(t, api.Node{Keys: []string{"b"}, Kids: []int{91, 92}})), 91, leaf), 92, leaf)
	want(t, "a key out of place, of nodes that are too small", 512, withSuper(t, small, x), api.PartTree, api.ErrTree)
	want(t, "nodes that are too small", 512, withSuper(t, with(small, 92, nodeSector(t, api.Node{Leaf: true, Keys: []string{"i"}, Values: []string{""}})), x), api.PartTree, api.ErrTree)
	want(t, "a small root", 512, withSuper(t, with(image, 90, leaf), x), api.PartKeys, api.ErrVolume)
}

// TestJournal: P28.1: sectors of a generation that is to come, records that are none, records that can't be applied.
func TestJournal(t *testing.T) {
	s := someShape(96)
	image := imageOf(filled(t, s))
	now := superOf(t, 512, image).Generation
	mkdirs := func(records int) []byte {
		f := filled(t, s)
		for i := range records {
			done(t, f, api.Op{Kind: api.OpMkdir, Path: "/" + string(rune('m'+i))}, api.Op{Kind: api.OpSync})
		}
		return imageOf(f)
	}
	for n := range 4 {
		if v := fsckRecords(t, mkdirs(n)); v != n {
			t.Error("records", v, "want", n)
		}
	}
	for place := range s.Journal {
		for generation, part := range map[uint64]int{now - 1: 0, now + 1: api.PartJournal, now + 2: api.PartJournal, 1 << 63: api.PartJournal} {
			why := api.OK
			if part > 0 {
				why = api.ErrVolume
			}
			other := journaled(t, 512, image, generation, place, "what it says is not looked at")
			want(t, "of another generation", 512, other, part, why)
			if place > 0 {
				other = with(other, 1+place, other[(2+place)*512:(3+place)*512])
				want(t, "of another generation, in its place and in another one", 512, other, part, why)
				want(t, "of another generation, in another place", 512, with(other, 2+place, make([]byte, 512)), 0, api.OK)
			}
			turned := slices.Clone(journaled(t, 512, image, generation, place, "a record"))
			turned[(2+place)*512+200] ^= 1
			want(t, "of another generation, and not right", 512, turned, 0, api.OK)
		}
	}
	full := string(make([]byte, 512-24-4))
	want(t, "of another generation, full", 512, journaled(t, 512, image, now+1, 3, full), api.PartJournal, api.ErrVolume)
	behind := with(mkdirs(2), 5, journaled(t, 512, image, now+1, 3, "x")[5*512:6*512])
	want(t, "of another generation, behind records", 512, behind, api.PartJournal, api.ErrVolume)
	good := vol.Record([]api.Entry{{Key: "sx", Value: "1"}})
	long := vol.Record([]api.Entry{{Key: string(make([]byte, api.MaxKey+1)), Value: "1"}})
	for what, x := range map[string]struct {
		records []string
		part    int
		why     api.Errno
	}{
		"an empty one":                 {[]string{""}, 0, api.OK},
		"none":                         {[]string{"x"}, api.PartJournal, api.ErrVolume},
		"none behind one":              {[]string{good, good[1:]}, api.PartJournal, api.ErrVolume},
		"a key that is too long":       {[]string{long}, api.PartJournal, api.ErrEntry},
		"a value that is too long":     {[]string{vol.Record([]api.Entry{{Key: "a", Value: string(make([]byte, api.MaxValue+1))}})}, api.PartJournal, api.ErrEntry},
		"no key":                       {[]string{vol.Record([]api.Entry{{Value: "1"}})}, api.PartJournal, api.ErrEntry},
		"a long key, ahead of none":    {[]string{long, "x"}, api.PartJournal, api.ErrEntry},
		"none, ahead of a long key":    {[]string{"x", long}, api.PartJournal, api.ErrVolume},
		"a long key that is gone":      {[]string{vol.Record([]api.Entry{{Key: string(make([]byte, api.MaxKey+1)), Gone: true}})}, 0, api.OK},
		"one":                          {[]string{good}, api.PartInodes, api.ErrInode},
		"one, and one that undoes it":  {[]string{good, vol.Record([]api.Entry{{Key: "sx", Gone: true}})}, 0, api.OK},
		"an older one behind":          {[]string{vol.Record([]api.Entry{{Key: "sx", Gone: true}}), good}, api.PartInodes, api.ErrInode},
		"one with keys that fall":      {[]string{vol.Record([]api.Entry{{Key: "sx", Gone: true}, {Key: "sw", Gone: true}})}, api.PartJournal, api.ErrVolume},
		"one that takes nothing away":  {[]string{vol.Record([]api.Entry{{Key: "a", Gone: true}})}, 0, api.OK},
		"records that are a long list": {[]string{"", "", "", "", ""}, 0, api.OK},
	} {
		want(t, what, 512, journaled(t, 512, image, now, 0, x.records...), x.part, x.why)
	}
}

// fsckRecords is how many records a clean image has.
func fsckRecords(t *testing.T, image []byte) int {
	t.Helper()
	want(t, "records", 512, image, 0, api.OK)
	l, e := journal.Scan(512, superOf(t, 512, image).Generation, image[2*512:6*512])
	if e != api.OK {
		t.Fatal("Scan", e)
	}
	return len(l)
}

// TestSpace: P28.1: nodes and containers that lie where they can't.
func TestSpace(t *testing.T) {
	s := someShape(96)
	f := filled(t, s)
	image := imageOf(f)
	base := treeOf(t, 512, image)
	nodes, _ := base.Sectors()
	u := put(key('i', 2), "x")(t, base) // which is not right either, but later
	if u.Dirty() != 2 {
		t.Fatal("dirty", u.Dirty())
	}
	for _, n := range []int{2, 5} {
		want(t, "a node in the journal", 512, laidAt(t, 512, image, u, []int{n, 90}), api.PartSpace, api.ErrVolume)
	}
	want(t, "a node in an old superblock's sector", 512, laidAt(t, 512, image, u, []int{layout.Slot(superOf(t, 512, image).Generation), 90}), api.PartSpace, api.ErrVolume)
	for name, x := range map[string]fault{
		"no data":                   {put(key('k', 90), numbers(0, 0, 0)), api.PartSpace, api.ErrVolume},
		"half no data":              {put(key('k', 90), numbers(5, 0, 0)), api.PartSpace, api.ErrVolume},
		"behind the end":            {put(key('k', 90), numbers(96, 0, 0)), api.PartSpace, api.ErrVolume},
		"half behind the end":       {put(key('k', 90), numbers(95, 0, 0)), api.PartSpace, api.ErrVolume},
		"far behind":                {put(key('k', 90), numbers(1<<32-1, 0, 0)), api.PartSpace, api.ErrVolume},
		"on a node":                 {put(key('k', 90), numbers(nodes[0], 0, 0)), api.PartSpace, api.ErrVolume},
		"half on a node":            {put(key('k', 90), numbers(nodes[0]-1, 0, 0)), api.PartSpace, api.ErrVolume},
		"on another one":            {all(put(key('k', 90), numbers(50, 0, 0)), put(key('k', 91), numbers(50, 0, 0))), api.PartSpace, api.ErrVolume},
		"half on another one":       {all(put(key('k', 90), numbers(50, 0, 0)), put(key('k', 91), numbers(51, 0, 0))), api.PartSpace, api.ErrVolume},
		"beside another one":        {all(put(key('k', 90), numbers(50, 0, 0)), put(key('k', 91), numbers(52, 0, 0)), number("s", 8, 100)), 0, api.OK},
		"space ahead of inodes":     {all(put(key('k', 90), numbers(1, 0, 0)), put("sx", "")), api.PartSpace, api.ErrVolume},
		"no record: its value":      {put(key('k', 90), numbers(0, 0)), api.PartChunks, api.ErrChunk},
		"no record: more than that": {put(key('k', 90), numbers(0, 0, 0, 0)), api.PartChunks, api.ErrChunk},
		"no record: its counts":     {put(key('k', 90), numbers(0, 1, 2)), api.PartChunks, api.ErrChunk},
		"no record: its number":     {put(key('k', 0), numbers(0, 0, 0)), api.PartChunks, api.ErrChunk},
		"no record: a high number":  {put(key('k', 1<<31), numbers(0, 0, 0)), api.PartChunks, api.ErrChunk},
		"no record: a longer key":   {put(key('k', 90)+"x", numbers(0, 0, 0)), api.PartChunks, api.ErrChunk},
		"no record: a shorter key":  {put("k90", numbers(0, 0, 0)), api.PartChunks, api.ErrChunk},
	} {
		u := x.change(t, base)
		want(t, name+", in the tree", 512, laid(t, 512, image, u), x.part, x.why)
		want(t, name+", in the journal", 512, changed(t, 512, image, u), x.part, x.why)
	}
	want(t, "one that has moved", 512, changed(t, 512, image, number(key('k', 1), 0, 50)(t, base)), api.PartSpace, api.ErrVolume)
	two := laid(t, 512, image, all(put(key('k', 90), numbers(50, 0, 0)), number("s", 8, 100))(t, base))
	want(t, "one of the superblock's", 512, two, 0, api.OK)
	gone := remove(key('k', 90))(t, treeOf(t, 512, two))
	want(t, "one that is gone", 512, changed(t, 512, two, gone), 0, api.OK)
	want(t, "one in the place of one that is gone", 512, changed(t, 512, two, put(key('k', 91), numbers(51, 0, 0))(t, gone)), api.PartSpace, api.ErrVolume)
	want(t, "one beside it", 512, changed(t, 512, two, put(key('k', 91), numbers(52, 0, 0))(t, gone)), 0, api.OK)
}

// TestSpaceFull: P28.1: a redone tree for whose dirty nodes there is no room is told; a mount is refused just then.
func TestSpaceFull(t *testing.T) {
	f, e := fs.Format(api.Shape{Sector: 512, Sectors: 40, Journal: 10, Pack: 2, Cut: api.Cut{Min: 8, Normal: 16, Max: 64}, Bits: 256, Dedup: true})
	if e != api.OK {
		t.Fatal("Format", e)
	}
	empty := imageOf(f)
	met := [2]int{}
	for containers := range 14 {
		u := number("s", 8, 20)(t, treeOf(t, 512, empty))
		for i := range containers {
			u = put(key('k', i+1), numbers(12+2*i, 0, 0))(t, u)
		}
		image := laidAt(t, 512, empty, u, []int{38, 39, 37}[:u.Dirty()])
		for entries := range 15 {
			w := treeOf(t, 512, image)
			for i := range entries { // links of the root to directories
				n := 2 + i
				w = all(put(key('i', n), "\x02"+numbers(0, 2, 1)), put(key('d', 1)+"a long name of a directory "+string(rune('a'+i)), numbers(n)+"\x02"))(t, w)
			}
			w = all(number(key('i', 1), 5, 2+entries), number("s", 0, 2+entries))(t, w)
			other := changed(t, 512, image, w)
			base, _ := treeOf(t, 512, image).Sectors()
			left := layout.Data(superOf(t, 512, image).Shape).Count - len(base) - 2*containers
			part, why := 0, api.OK
			if w.Dirty() > left {
				part, why = api.PartSpace, api.ErrFull
				met[1]++
			} else {
				met[0]++
			}
			want(t, "so many dirty nodes", 512, other, part, why)
			if _, e := fs.Mount(load(t, 512, other)); e != why {
				t.Error("Mount", e, "want", why)
			}
		}
	}
	if met[0] == 0 || met[1] == 0 {
		t.Error("met", met)
	}
}

// TestLetters: P28.1: the keys of a clean image begin with all of the letters that may be, and codec's keys begin so.
func TestLetters(t *testing.T) {
	image := imageOf(filled(t, someShape(96)))
	letters := map[byte]int{}
	for k := range treeOf(t, 512, image).Scan("", "") {
		letters[k[0]]++
	}
	for _, prefix := range []byte("cdikosx") {
		k, _ := codec.Key(prefix, nil, "")
		if letters[k[0]] == 0 {
			t.Errorf("no key of %c", prefix)
		}
	}
	if len(letters) != 7 {
		t.Error("letters", letters)
	}
}
