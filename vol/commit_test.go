package vol_test

import (
	"bytes"
	"fmt"
	"maps"
	"strings"
	"testing"

	"dedup/api"
	"dedup/chunk"
	"dedup/disk"
	"dedup/journal"
	"dedup/layout"
	"dedup/tree"
	"dedup/vol"
)

// recordsOf is the records that lie in the journal of a volume's generation.
func recordsOf(t *testing.T, v *vol.Vol) []string {
	t.Helper()
	s := v.Super().Shape
	area := layout.Journal(s)
	image := v.Disk().Image()[area.First*s.Sector : (area.First+area.Count)*s.Sector]
	l, e := journal.Scan(s.Sector, v.Super().Generation, image)
	if e != api.OK {
		t.Fatal("Scan", e)
	}
	return l
}

// TestTransaction: P25.3: a transaction is on the present state; nothing of it is there ahead of its Commit, and all behind it.
func TestTransaction(t *testing.T) {
	v := format(t, someShape())
	mustCommit(t, v, putKeys(0, 3))
	was := pairs(v.Book().Tree())
	x := v.Begin()
	if !maps.Equal(pairs(x.Book().Tree()), was) {
		t.Error("a transaction begins with the present state")
	}
	put(x.Book(), "zk", "v")
	remove(x.Book(), "z0001")
	id, e := x.Book().Put([]byte("abc"))
	if id != 1 || e != api.OK {
		t.Fatal("Put", id, e)
	}
	if !maps.Equal(pairs(v.Book().Tree()), was) || v.Book().Space().Used() != 1 {
		t.Error("it is there ahead of Commit")
	}
	image := v.Disk().Image()
	if e := v.Commit(x); e != api.OK {
		t.Fatal("Commit", e)
	}
	if !maps.Equal(pairs(v.Book().Tree()), pairs(x.Book().Tree())) || v.Book().Space().Used() != 3 {
		t.Error("it is not there behind Commit")
	}
	if data, e := v.Book().Get(1); e != api.OK || string(data) != "abc" {
		t.Error("the chunk", data, e)
	}
	if !bytes.Equal(image, v.Disk().Image()) || len(v.Disk().Pending()) > 0 {
		t.Error("something was written")
	}
}

// TestCommitRefused: P25.3: only the last transaction that was begun here can be committed, once.
func TestCommitRefused(t *testing.T) {
	v, other := format(t, someShape()), format(t, someShape())
	if v.Commit(nil) != api.ErrCommit || v.Commit(new(vol.Tx)) != api.ErrCommit {
		t.Error("none")
	}
	x, y := v.Begin(), v.Begin()
	put(x.Book(), "zx", "")
	put(y.Book(), "zy", "")
	if other.Commit(y) != api.ErrCommit || v.Commit(other.Begin()) != api.ErrCommit {
		t.Error("another volume's")
	}
	if v.Commit(x) != api.ErrCommit {
		t.Error("not the last one")
	}
	if v.Commit(y) != api.OK || v.Commit(y) != api.ErrCommit || v.Commit(x) != api.ErrCommit || v.Commit(nil) != api.ErrCommit {
		t.Error("the last one, and again")
	}
	l := pairs(v.Book().Tree())
	if _, is := l["zx"]; is || len(l) != 3 {
		t.Error("the tree", l)
	}
}

// TestDetached: P25.3: what is done by a transaction's book behind its Commit is not done to the volume.
func TestDetached(t *testing.T) {
	v := format(t, someShape())
	x := v.Begin()
	put(x.Book(), "za", "1")
	if v.Commit(x) != api.OK {
		t.Fatal("Commit")
	}
	was := pairs(v.Book().Tree())
	put(x.Book(), "zb", "2")
	x.Book().Put([]byte("abc"))
	if !maps.Equal(pairs(v.Book().Tree()), was) || v.Book().Space().Used() != 1 {
		t.Error("the present state has changed")
	}
}

// TestRecords: P25.3: each commit is a record, of its diff to the state ahead of it; an empty one is none.
func TestRecords(t *testing.T) {
	v := format(t, someShape())
	var want []string
	for i := range 5 {
		was := v.Book().Tree()
		mustCommit(t, v, putKeys(i, 1+i%2))
		l, _ := vol.Diff(was, v.Book().Tree())
		want = append(want, vol.Record(l))
		mustCommit(t, v, func(b *chunk.Book) {})
		mustCommit(t, v, func(b *chunk.Book) {
			put(b, "zz", "")
			remove(b, "zz")
		})
	}
	if v.Sync() != api.OK {
		t.Error("Sync")
	}
	l := recordsOf(t, v)
	if fmt.Sprint(l) != fmt.Sprint(want) {
		t.Errorf("records %q, want %q", l, want)
	}
	if _, writes, _ := v.Disk().Counts(); v.Sync() != api.OK || writes != 2+1 {
		t.Error("writes", writes)
	}
}

// TestEmptyCommit: P25.3: an empty diff appends nothing, so that there is nothing to sync, and no checkpoint to do.
func TestEmptyCommit(t *testing.T) {
	v := format(t, someShape())
	mustCommit(t, v, func(b *chunk.Book) {})
	if is, e := v.Checkpoint(); is || e != api.OK || v.Sync() != api.OK {
		t.Error("Checkpoint", is, e)
	}
	if _, writes, flushes := v.Disk().Counts(); writes != 2 || flushes != 2 {
		t.Error("written", writes, flushes)
	}
}

// TestJournalFull: P25.3: where the journal has no room for a record a checkpoint is done, which has the commit in it.
func TestJournalFull(t *testing.T) {
	v := format(t, someShape())
	for i := range 40 {
		generation := v.Super().Generation
		s := v.Super().Shape
		w, _ := journal.New(s.Sector, s.Journal, generation)
		records := recordsOf(t, v)
		for _, rec := range records {
			w.Append(rec)
			w.Take()
		}
		before := v.Book().Tree()
		mustCommit(t, v, putKeys(i, 1+i%7))
		l, _ := vol.Diff(before, v.Book().Tree())
		full := w.Append(vol.Record(l)) != api.OK
		if got := v.Super().Generation; got != generation && !full || got != generation+1 && full {
			t.Error("generation", got, "behind", generation, full)
		}
		if full {
			if v.Book().Tree().Dirty() != 0 || v.Book().Tree().Root() != v.Super().Root {
				t.Error("not laid down")
			}
			d := v.Disk().Fork()
			d.Crash(nil)
			if u := open(t, d); !maps.Equal(pairs(u.Book().Tree()), pairs(v.Book().Tree())) {
				t.Error("what was committed is not there")
			}
			continue
		}
		if v.Sync() != api.OK {
			t.Error("Sync")
		}
	}
	if v.Super().Generation < 5 {
		t.Error("too few checkpoints", v.Super().Generation)
	}
}

// TestLongRecord: P25.3: a record that the journal calls too long, though it has room for it.
func TestLongRecord(t *testing.T) {
	s := someShape()
	s.Sector, s.Sectors, s.Journal = 4096, 256, 64
	v := format(t, s)
	mustCommit(t, v, putKeys(0, 1300))
	l, _ := vol.Diff(format(t, s).Book().Tree(), v.Book().Tree())
	if n := len(vol.Record(l)); n <= 65536 || n > 64*4000 {
		t.Fatal("the record", n)
	}
	if v.Super().Generation != 2 || v.Book().Tree().Dirty() != 0 {
		t.Error("no checkpoint", v.Super())
	}
	if u := open(t, v.Disk().Fork()); !maps.Equal(pairs(u.Book().Tree()), pairs(v.Book().Tree())) {
		t.Error("what was committed is not there")
	}
}

// TestTreeOfCommit: P25.3: the tree is the present one with the diff, not the transaction's own: it has as many dirty nodes as a mount makes.
func TestTreeOfCommit(t *testing.T) {
	v := format(t, someShape())
	mustCommit(t, v, putKeys(0, 60))
	v.Checkpoint()
	x := v.Begin()
	for i := range 60 { // the tree is made anew, so that all its nodes are dirty
		remove(x.Book(), fmt.Sprintf("z%04d", i))
	}
	putKeys(0, 60)(x.Book())
	put(x.Book(), "z0030", "other")
	if x.Book().Tree().Dirty() < 5 {
		t.Fatal("too few dirty nodes", x.Book().Tree().Dirty())
	}
	want, _ := v.Book().Tree().Put("z0030", "other")
	if v.Commit(x) != api.OK || v.Book().Tree().Dirty() != want.Dirty() || !maps.Equal(pairs(v.Book().Tree()), pairs(want)) {
		t.Error("the tree", v.Book().Tree().Dirty(), "want", want.Dirty())
	}
}

// TestCommitFull: P25.3, P25.10: what does not fit is refused, and nothing has changed; what fits just so is not, and its checkpoint is not.
func TestCommitFull(t *testing.T) {
	s := someShape()
	s.Sectors, s.Journal = 24, 6
	full := 0
	for n := 1; n < 150; n++ {
		v := format(t, s)
		mustCommit(t, v, putKeys(0, 12))
		was, used := pairs(v.Book().Tree()), v.Book().Space().Used()
		x := v.Begin()
		putKeys(12, n)(x.Book())
		diff, _ := vol.Diff(v.Book().Tree(), x.Book().Tree())
		with, _ := vol.Apply(v.Book().Tree(), diff)
		fits := with.Dirty() <= x.Book().Space().Left()
		e := v.Commit(x)
		if fits != (e == api.OK) || !fits && e != api.ErrFull {
			t.Fatal("Commit", n, e, with.Dirty(), x.Book().Space().Left())
		}
		if fits {
			done := v.Super().Generation == 2 // as the journal had no room
			if is, e := v.Checkpoint(); e != api.OK || is == done {
				t.Error("Checkpoint", n, is, e)
			}
			continue
		}
		full++
		if !maps.Equal(pairs(v.Book().Tree()), was) || v.Book().Space().Used() != used {
			t.Error("something has changed")
		}
		if v.Commit(x) != api.ErrFull {
			t.Error("it is still the last one, and does not fit still")
		}
		mustCommit(t, v, func(b *chunk.Book) { put(b, "zk", "v") })
		if l := recordsOf(t, v); len(l) != 0 || v.Sync() != api.OK || len(recordsOf(t, v)) != 2 {
			t.Error("records", len(l), len(recordsOf(t, v)))
		}
		u := open(t, v.Disk())
		if u.Super().Generation != 2 || !maps.Equal(pairs(u.Book().Tree()), pairs(v.Book().Tree())) {
			t.Error("behind a mount")
		}
	}
	if full < 10 {
		t.Error("too seldom", full)
	}
}

// TestSpaceOfTransaction: P25.3: it is the transaction's space that counts: containers that it took leave no room for nodes.
func TestSpaceOfTransaction(t *testing.T) {
	s := someShape()
	s.Sectors, s.Journal = 16, 4
	v := format(t, s)
	x := v.Begin()
	var e api.Errno
	n := 0
	for ; e == api.OK; n++ {
		_, e = x.Book().Put([]byte(strings.Repeat(fmt.Sprint(n), 800)))
	}
	if e != api.ErrFull || x.Book().Space().Left() != 1 || x.Book().Tree().Dirty() > 2 {
		t.Fatal("Put", n, e, x.Book().Space().Left(), x.Book().Tree().Dirty())
	}
	if x.Book().Tree().Dirty() <= 1 {
		putKeys(0, 6)(x.Book())
	}
	if v.Commit(x) != api.ErrFull || v.Book().Space().Left() != 9 {
		t.Error("Commit", v.Book().Space().Left())
	}
}

// TestCommitTree: P25.3: a transaction whose tree can't be read is told as such.
func TestCommitTree(t *testing.T) {
	v := format(t, someShape())
	d, _ := disk.New(512, 64)
	x := v.Begin()
	x.Book().Set(brokenTree(t, d))
	if e := v.Commit(x); e != api.ErrTree || len(pairs(v.Book().Tree())) != 2 {
		t.Error("Commit", e)
	}
	other, _ := tree.New(4096) // keys and values alone count
	other, _ = other.Put("zk", "v")
	x.Book().Set(other)
	if e := v.Commit(x); e != api.OK || len(pairs(v.Book().Tree())) != 1 {
		t.Error("Commit of a tree of larger nodes", e)
	}
}

// TestMaintenanceMeanwhile: P25.3, P25.9: what is done to the volume between Begin and Commit takes nothing from the transaction.
func TestMaintenanceMeanwhile(t *testing.T) {
	for what := range 32 {
		v := format(t, someShape())
		mustCommit(t, v, putKeys(0, 30))
		mustCommit(t, v, func(b *chunk.Book) {
			b.Put([]byte("ahead"))
			b.Put([]byte("gone"))
		})
		v.Checkpoint()
		mustCommit(t, v, func(b *chunk.Book) {
			b.Decr(2)
			put(b, "z0002", "other")
		})
		x := v.Begin()
		for i := range 4 {
			if _, e := x.Book().Put([]byte(strings.Repeat(fmt.Sprint(i), 400))); e != api.OK {
				t.Fatal("Put", e)
			}
		}
		put(x.Book(), "z0020", "other")
		for i, do := range []func(){
			func() { v.Sync() }, func() { v.Checkpoint() }, func() { v.Drop() },
			func() { v.Compact() }, func() { v.Sync(); v.Checkpoint() },
		} {
			if what>>i&1 == 1 {
				do()
			}
		}
		want, told := pairs(x.Book().Tree()), contents(t, x.Book())
		if e := v.Commit(x); e != api.OK {
			t.Fatal("Commit", what, e)
		}
		for round := range 2 {
			if !maps.Equal(pairs(v.Book().Tree()), want) || !maps.Equal(contents(t, v.Book()), told) {
				t.Error("not what was committed", what, round)
			}
			if v.Sync() != api.OK {
				t.Error("Sync")
			}
			v.Disk().Crash(nil)
			v = open(t, v.Disk())
			wantRight(t, v)
			wantSpace(t, v, 0)
			mustCommit(t, v, func(b *chunk.Book) {
				put(b, "zy", fmt.Sprint(round))
				b.Put([]byte("more"))
			})
			want, told = pairs(v.Book().Tree()), contents(t, v.Book())
		}
	}
}

// TestCheckpointFirst: P25.10: where there is no room for both, a checkpoint of what was committed comes ahead of a transaction.
func TestCheckpointFirst(t *testing.T) {
	s := someShape()
	s.Sectors, s.Journal = 18, 4
	v := format(t, s)
	mustCommit(t, v, putKeys(0, 18)) // nodes that want a sector each
	x := v.Begin()
	for i := 0; ; i++ {
		if _, e := x.Book().Put([]byte(strings.Repeat(fmt.Sprint(i), 900))); e != api.OK {
			break
		}
	}
	if n := v.Book().Tree().Dirty(); x.Book().Space().Left() >= n {
		t.Fatal("there is room for both", x.Book().Space().Left(), n)
	}
	if is, e := v.Checkpoint(); !is || e != api.OK {
		t.Fatal("Checkpoint", is, e)
	}
	if e := v.Commit(x); e != api.ErrFull {
		t.Error("Commit", e)
	}
	wantRight(t, v)
	wantSpace(t, v, 0)
	mustCommit(t, v, func(b *chunk.Book) { put(b, "zk", "v") })
}
