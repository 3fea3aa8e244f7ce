package vol_test

import (
	"bytes"
	"fmt"
	"maps"
	"math"
	"slices"
	"strings"
	"testing"

	"dedup/api"
	"dedup/chunk"
	"dedup/disk"
	"dedup/journal"
	"dedup/layout"
	"dedup/tree"
	"dedup/vol"
)

// groups is the sectors that something writes to a volume's disk, flush by flush, in the order of the writes: the volume is made anew for each of its writes, behind which the power goes.
func groups(make func() *vol.Vol, do func(v *vol.Vol)) [][]int {
	var l [][]int
	var was []int
	for n := 0; ; n++ {
		v := make()
		v.Disk().Stop(n)
		do(v)
		if !v.Disk().Off() {
			return l
		}
		now := v.Disk().Pending()
		if n > 0 && len(now) == 0 {
			l = append(l, was)
		}
		was = now
	}
}

// wantGroups holds which groups something writes.
func wantGroups(t *testing.T, what string, make func() *vol.Vol, do func(v *vol.Vol), want ...[]int) {
	t.Helper()
	if l := groups(make, do); fmt.Sprint(l) != fmt.Sprint(want) {
		t.Error(what, "writes", l, "want", want)
	}
}

// sync and checkpoint are what is done.
func sync(v *vol.Vol)       { v.Sync() }
func checkpoint(v *vol.Vol) { v.Checkpoint() }

// with is a new volume with these commits.
func with(t *testing.T, s api.Shape, commits ...func(b *chunk.Book)) func() *vol.Vol {
	return func() *vol.Vol {
		v := format(t, s)
		for _, changes := range commits {
			mustCommit(t, v, changes)
		}
		return v
	}
}

// putChunks puts chunks of so many bytes, each another one.
func putChunks(lengths ...int) func(b *chunk.Book) {
	return func(b *chunk.Book) {
		for i, n := range lengths {
			if _, e := b.Put([]byte(strings.Repeat(string(rune('a'+i)), n))); e != api.OK {
				panic(fmt.Sprint("Put ", e))
			}
		}
	}
}

// TestSync: P25.4: the book's sectors are a group, then the journal's; none where there are none. (Sectors 0 and 1 are the superblocks', 2 to 5 the journal's, 6 is the root; containers have 2 sectors each.)
func TestSync(t *testing.T) {
	s := someShape()
	wantGroups(t, "nothing", with(t, s), sync)
	wantGroups(t, "keys", with(t, s, putKeys(0, 3)), sync, []int{2})
	wantGroups(t, "more keys", with(t, s, putKeys(0, 10), putKeys(10, 10)), sync, []int{2, 3, 4})
	wantGroups(t, "a chunk", with(t, s, putChunks(10)), sync, []int{7}, []int{2})
	wantGroups(t, "a chunk in two sectors", with(t, s, putChunks(700)), sync, []int{7, 8}, []int{2})
	wantGroups(t, "containers", with(t, s, putChunks(900, 800, 10)), sync, []int{7, 8, 9, 10}, []int{2})
	again := func() *vol.Vol {
		v := with(t, s, putChunks(100))()
		v.Sync()
		return v
	}
	wantGroups(t, "again", again, sync)
	more := func() *vol.Vol {
		v := again()
		mustCommit(t, v, func(b *chunk.Book) { b.Put([]byte("more")) })
		return v
	}
	wantGroups(t, "more", more, sync, []int{7}, []int{3})
	begun := func() *vol.Vol {
		v := again()
		putChunks(200, 300)(v.Begin().Book())
		return v
	}
	wantGroups(t, "a transaction that is not committed", begun, sync)
}

// TestSyncJournal: P25.4: the journal's sectors lie at their places in its area, of the superblock's generation.
func TestSyncJournal(t *testing.T) {
	v := format(t, someShape())
	v.Begin()
	if is, _ := v.Checkpoint(); is {
		t.Error("nothing is to be done")
	}
	mustCommit(t, v, putKeys(0, 3))
	v.Checkpoint()
	w, _ := journal.New(512, 4, 2)
	for i := range 3 {
		was := v.Book().Tree()
		mustCommit(t, v, putKeys(10+10*i, 2))
		l, _ := vol.Diff(was, v.Book().Tree())
		w.Append(vol.Record(l))
		if v.Sync() != api.OK {
			t.Error("Sync")
		}
		for _, s := range w.Take() {
			if b, _ := v.Disk().Read(2 + s.N); !bytes.Equal(b, s.Bytes) || s.N != i {
				t.Error("the journal's sector", s.N)
			}
		}
	}
}

// TestCheckpoint: P25.5: the book's sectors, the nodes, the superblock are a group each; the nodes take the first free sectors, kids ahead of the root.
func TestCheckpoint(t *testing.T) {
	s := someShape()
	wantGroups(t, "nothing", with(t, s), checkpoint)
	wantGroups(t, "keys", with(t, s, putKeys(0, 3)), checkpoint, []int{7}, []int{0})
	wantGroups(t, "leaves and a root", with(t, s, putKeys(0, 9)), checkpoint, []int{7, 8, 9}, []int{0})
	wantGroups(t, "chunks", with(t, s, putChunks(700, 10)), checkpoint, []int{7, 8}, []int{9}, []int{0})
	again := func() *vol.Vol {
		v := with(t, s, putKeys(0, 9))()
		v.Checkpoint()
		return v
	}
	wantGroups(t, "again", again, checkpoint)
	more := func() *vol.Vol {
		v := again()
		mustCommit(t, v, func(b *chunk.Book) { put(b, "z0000", "other") })
		return v
	}
	wantGroups(t, "a leaf and the root", more, checkpoint, []int{6, 10}, []int{1})
}

// TestCheckpointTells: P25.5: true, if a node is dirty, a record was appended, the book has sectors, or something waits; and the state behind it.
func TestCheckpointTells(t *testing.T) {
	v := format(t, someShape())
	want := func(what string, is bool, generation uint64, left int) {
		t.Helper()
		got, e := v.Checkpoint()
		if got != is || e != api.OK || v.Super().Generation != generation || v.Book().Space().Left() != left {
			t.Error(what, got, e, v.Super().Generation, v.Book().Space().Left(), "want", is, generation, left)
		}
		wantSpace(t, v, 0)
		if v.Book().Tree().Dirty() != 0 || v.Book().Tree().Root() != v.Super().Root {
			t.Error(what, "the tree", v.Book().Tree().Dirty(), v.Book().Tree().Root())
		}
		for slot := range 2 {
			b, _ := v.Disk().Read(slot)
			if x, e := layout.DecodeSuper(b); slot == layout.Slot(generation) && (e != api.OK || x != v.Super()) {
				t.Error(what, "the superblock", x, e)
			}
		}
	}
	want("nothing", false, 1, 57)
	mustCommit(t, v, putKeys(0, 1))
	want("a dirty node", true, 2, 57)
	want("nothing", false, 2, 57)
	mustCommit(t, v, func(b *chunk.Book) {
		u, _ := tree.Open(512, v.Super().Root, v.Disk())
		b.Set(u)
	})
	want("the same tree", false, 2, 57)
	mustCommit(t, v, putChunks(900, 900))
	want("containers", true, 3, 53)
	mustCommit(t, v, func(b *chunk.Book) { b.Decr(1) })
	if v.Book().Space().Waiting() != 2 || v.Book().Space().Left() != 53 {
		t.Error("waiting", v.Book().Space().Waiting(), v.Book().Space().Left())
	}
	want("a container let go", true, 4, 55)
}

// TestCheckpointOf: P25.5: each cause alone lets a checkpoint be done: sectors of the book, what waits, a record without a dirty node, a dirty node without a record.
func TestCheckpointOf(t *testing.T) {
	s := someShape()
	book := func() *vol.Vol {
		v := format(t, s)
		x := v.Begin()
		x.Book().Put([]byte("abc"))
		x.Book().Set(v.Book().Tree())
		v.Commit(x)
		return v
	}
	wantGroups(t, "the book's sectors", book, checkpoint, []int{7}, []int{0})
	waits := func() *vol.Vol {
		v := format(t, s)
		x := v.Begin()
		at, _ := x.Book().Space().Take(3)
		x.Book().Space().Later(api.Area{First: at, Count: 3})
		v.Commit(x)
		return v
	}
	wantGroups(t, "what waits", waits, checkpoint, []int{0})
	v := waits()
	if is, e := v.Checkpoint(); !is || e != api.OK || v.Book().Space().Waiting() != 0 || v.Super().Root != 6 || v.Super().Generation != 2 {
		t.Error("what waits is free", is, e, v.Super())
	}
	record := func() *vol.Vol {
		v := with(t, s, putKeys(0, 1))()
		v.Sync()
		v.Book().Set(mustPlace(t, v))
		return v
	}
	wantGroups(t, "a record", record, checkpoint, []int{0})
	dirty := func() *vol.Vol {
		v := format(t, s)
		put(v.Book(), "z", "")
		return v
	}
	wantGroups(t, "a dirty node", dirty, checkpoint, []int{7}, []int{0})
}

// mustPlace is a volume's tree as if its nodes lay somewhere.
func mustPlace(t *testing.T, v *vol.Vol) *tree.Tree {
	t.Helper()
	u := v.Book().Tree()
	var l []int
	for range u.Dirty() {
		n, e := v.Book().Space().Take(1)
		if e != api.OK {
			t.Fatal("Take", e)
		}
		l = append(l, n)
	}
	u, _, e := u.Place(l)
	if e != api.OK {
		t.Fatal("Place", e)
	}
	return u
}

// TestJournalAnew: P25.5: behind a checkpoint the journal begins anew, with the new generation: all of its room is there, and old records are nothing.
func TestJournalAnew(t *testing.T) {
	v := format(t, someShape())
	for i := range 3 {
		for range 2 {
			mustCommit(t, v, putKeys(10*i, 6))
			if v.Sync() != api.OK {
				t.Error("Sync")
			}
			mustCommit(t, v, putKeys(10*i, 7))
			v.Sync()
		}
		if v.Super().Generation != uint64(i+1) {
			t.Error("a checkpoint came too early", i, v.Super().Generation)
		}
		if is, e := v.Checkpoint(); !is || e != api.OK || len(recordsOf(t, v)) != 0 {
			t.Error("Checkpoint", is, e, len(recordsOf(t, v)))
		}
	}
}

// TestCheckpointFull: P25.5: a sector that is refused: ErrFull, nothing is written but the book's sectors, and the state is as it was.
func TestCheckpointFull(t *testing.T) {
	s := someShape()
	make := func() *vol.Vol {
		v := with(t, s, putKeys(0, 9), putChunks(700))()
		sp := v.Book().Space()
		sp.Reserve(sp.Left() - v.Book().Tree().Dirty() + 1)
		return v
	}
	wantGroups(t, "what does not fit", make, checkpoint, []int{7, 8})
	v := make()
	was, left := pairs(v.Book().Tree()), v.Book().Space().Left()
	for range 2 {
		if is, e := v.Checkpoint(); is || e != api.ErrFull {
			t.Error("Checkpoint", is, e)
		}
	}
	if v.Super().Generation != 1 || v.Book().Space().Left() != left || !maps.Equal(pairs(v.Book().Tree()), was) {
		t.Error("something has changed", v.Super(), v.Book().Space().Left())
	}
	v.Book().Space().Release(1)
	if is, e := v.Checkpoint(); !is || e != api.OK {
		t.Error("one more is left", is, e)
	}
	if data, e := v.Book().Get(1); e != api.OK || len(data) != 700 {
		t.Error("the chunk", e)
	}
}

// atGeneration is a volume's disk whose superblock is of another generation.
func atGeneration(t *testing.T, v *vol.Vol, generation uint64) *disk.Disk {
	t.Helper()
	d := v.Disk().Fork()
	super := v.Super()
	super.Generation = generation
	b, e := layout.EncodeSuper(super)
	if e != api.OK {
		t.Fatal("EncodeSuper", e)
	}
	d.Write(layout.Slot(generation), b)
	d.Flush()
	return d
}

// TestLastGeneration: P25.5, P25.6: behind the last generation there is none: no mount, no checkpoint, and no commit that wants one.
func TestLastGeneration(t *testing.T) {
	v := format(t, someShape())
	if w, e := vol.Open(atGeneration(t, v, math.MaxUint64)); w != nil || e != api.ErrFull {
		t.Error("Open of the last one", e)
	}
	w := open(t, atGeneration(t, v, math.MaxUint64-1))
	if w.Super().Generation != math.MaxUint64 {
		t.Error("the last one", w.Super())
	}
	if is, e := w.Checkpoint(); is || e != api.OK {
		t.Error("nothing to do", is, e)
	}
	full := false
	for i := range 100 {
		was, used := pairs(w.Book().Tree()), w.Book().Space().Bits()
		x := w.Begin()
		putKeys(i, 1)(x.Book())
		x.Book().Put([]byte(fmt.Sprint("chunk", i)))
		if e := w.Commit(x); e == api.OK {
			continue
		} else if e != api.ErrFull || w.Commit(x) != api.ErrFull {
			t.Fatal("Commit", e)
		}
		full = true
		if !maps.Equal(pairs(w.Book().Tree()), was) || w.Book().Space().Bits() != used || w.Super().Generation != math.MaxUint64 {
			t.Error("something has changed")
		}
	}
	if is, e := w.Checkpoint(); !full || is || e != api.ErrFull || len(contents(t, w.Book())) == 0 {
		t.Error("Checkpoint", full, is, e)
	}
	if w.Sync() != api.OK || len(recordsOf(t, w)) < 3 {
		t.Error("Sync", len(recordsOf(t, w)))
	}
	wantRight(t, w)
}

// TestOldNodes: P25.5: the nodes of the superblock's tree stay till the next one is written; then those that are not in the new tree are free.
func TestOldNodes(t *testing.T) {
	v := format(t, someShape())
	mustCommit(t, v, putKeys(0, 40))
	v.Checkpoint()
	for i := range 30 {
		was := mustSectors(t, v)
		mustCommit(t, v, func(b *chunk.Book) {
			for j := range 3 {
				put(b, fmt.Sprintf("z%04d", (7*i+13*j)%40), fmt.Sprint(i))
			}
		})
		for _, n := range was {
			if !v.Book().Space().Has(n) {
				t.Error("free ahead of the checkpoint", n)
			}
		}
		v.Checkpoint()
		now := mustSectors(t, v)
		for _, n := range was {
			if v.Book().Space().Has(n) != slices.Contains(now, n) {
				t.Error("behind the checkpoint", n)
			}
		}
		if v.Book().Space().Used() != len(now) {
			t.Error("used", v.Book().Space().Used(), len(now))
		}
	}
}

// mustSectors is the sectors of a volume's clean nodes.
func mustSectors(t *testing.T, v *vol.Vol) []int {
	t.Helper()
	l, e := v.Book().Tree().Sectors()
	if e != api.OK {
		t.Fatal("Sectors", e)
	}
	return l
}

// TestReadThrough: the volume's sectors are read through the cache: closed containers too, also when they are out of it.
func TestReadThrough(t *testing.T) {
	v := format(t, someShape())
	mustCommit(t, v, putChunks(900, 800, 700))
	v.Sync()
	want := contents(t, v.Book())
	reads, _, _ := v.Disk().Counts()
	if !maps.Equal(contents(t, v.Book()), want) {
		t.Error("contents")
	}
	if again, _, _ := v.Disk().Counts(); again != reads {
		t.Error("read from the disk, though the cache has it", again, reads)
	}
	v.Drop()
	if !maps.Equal(contents(t, v.Book()), want) {
		t.Error("contents behind Drop")
	}
	if again, _, _ := v.Disk().Counts(); again != reads+4 {
		t.Error("read from the disk", again-reads)
	}
}
