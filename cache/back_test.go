package cache_test

import (
	"bytes"
	"math"
	"testing"

	"dedup/api"
	"dedup/cache"
)

// TestWriteUpTo: P8.4, P8.5: the dirty frames up to an order, by their orders, of one order by their sectors; they are clean then, and not used.
func TestWriteUpTo(t *testing.T) {
	c, d := newCache(t, 16, 8)
	put(t, c, 9, 'a', 2)
	put(t, c, 3, 'b', 5)
	put(t, c, 7, 'c', 2)
	put(t, c, 2, 'd', 3)
	put(t, c, 8, 'e', 0)
	wantGet(t, c, 1, 1)
	put(t, c, 10, 'f', 2)
	wantErr(t, "WriteUpTo", c.WriteUpTo(2), api.OK)
	wantPending(t, d, 8, 7, 9, 10)
	wantFrames(t, c, clean(9), dirty(3, 5), clean(7), dirty(2, 3), clean(8), clean(1), clean(10))
	wantCounts(t, c, 0, 1, 4, 0)
	wantErr(t, "WriteUpTo again", c.WriteUpTo(2), api.OK)
	wantPending(t, d, 8, 7, 9, 10)
	wantErr(t, "WriteUpTo", c.WriteUpTo(math.MaxUint64), api.OK)
	wantPending(t, d, 8, 7, 9, 10, 2, 3)
	wantCounts(t, c, 0, 1, 6, 0)
	for sector, b := range map[int]byte{9: 'a', 3: 'b', 7: 'c', 2: 'd', 8: 'e', 10: 'f', 1: 1} {
		wantDisk(t, d, sector, b)
	}
	if _, _, flushes := d.Counts(); flushes != 0 {
		t.Error("WriteUpTo flushed")
	}
}

// TestGreatestOrder: P8.4: orders are numbers of 64 bits, the greatest too, and 0 is one of them.
func TestGreatestOrder(t *testing.T) {
	c, d := newCache(t, 8, 8)
	put(t, c, 1, 'a', math.MaxUint64)
	put(t, c, 2, 'b', 1<<63)
	put(t, c, 3, 'c', 1<<63-1)
	put(t, c, 4, 'd', 0)
	wantErr(t, "WriteUpTo", c.WriteUpTo(0), api.OK)
	wantPending(t, d, 4)
	wantErr(t, "WriteUpTo", c.WriteUpTo(math.MaxUint64-1), api.OK)
	wantPending(t, d, 4, 3, 2)
	wantErr(t, "Sync", c.Sync(), api.OK)
	wantDisk(t, d, 1, 'a')
	wantFrames(t, c, clean(1), clean(2), clean(3), clean(4))
}

// TestWritesPinned: P8.4: pins keep a frame, not its bytes from being written.
func TestWritesPinned(t *testing.T) {
	c, d := newCache(t, 8, 2)
	wantPin(t, c, 3, 3)
	put(t, c, 3, 'a', 4)
	wantErr(t, "WriteUpTo", c.WriteUpTo(4), api.OK)
	wantPending(t, d, 3)
	wantFrames(t, c, held(3, 1))
}

// TestWriteRefused: P8.4: at the first sector that the disk refuses its error is told, and nothing more is written; those ahead are clean.
func TestWriteRefused(t *testing.T) {
	c, d := newCache(t, 8, 4)
	put(t, c, 0, 'a', 1)
	put(t, c, 5, 'b', 2)
	put(t, c, 0, 'c', 1)
	shrink(t, d, 1)
	wantErr(t, "WriteUpTo", c.WriteUpTo(1), api.OK)
	put(t, c, 0, 'd', 3)
	wantErr(t, "WriteUpTo", c.WriteUpTo(3), api.ErrSector)
	wantFrames(t, c, dirty(5, 2), dirty(0, 3))
	wantPending(t, d, 0)
	wantDisk(t, d, 0, 'c')
	wantErr(t, "Sync", c.Sync(), api.ErrSector)
	wantPending(t, d, 0) // not flushed
	wantCounts(t, c, 0, 0, 1, 0)
}

// TestRoomRefused: P8.2, P8.3, P8.5: where the writing that makes room is refused, that is told, and nothing is let go; Get and Pin had their misses, and what was written ahead is clean.
func TestRoomRefused(t *testing.T) {
	c, d := newCache(t, 8, 2)
	put(t, c, 5, 'b', 2)
	put(t, c, 6, 'a', 1)
	shrink(t, d, 1)
	wantRefused(t, c, 0, api.ErrSector)
	wantCounts(t, c, 0, 2, 0, 0)
	wantErr(t, "Put", c.Put(0, fill('x'), 9), api.ErrSector)
	wantFrames(t, c, dirty(5, 2), dirty(6, 1))
	wantCounts(t, c, 0, 2, 0, 0)

	c, d = newCache(t, 8, 2)
	put(t, c, 5, 'b', 2)
	put(t, c, 0, 'a', 1)
	shrink(t, d, 2)
	wantRefused(t, c, 1, api.ErrSector)
	wantFrames(t, c, dirty(5, 2), clean(0))
	wantCounts(t, c, 0, 2, 1, 0)
	wantPending(t, d, 0)
}

// TestPowerGone: P8.4: a disk without power refuses nothing: frames are clean behind a Write all the same.
func TestPowerGone(t *testing.T) {
	c, d := newCache(t, 8, 4)
	put(t, c, 1, 'a', 1)
	put(t, c, 2, 'b', 2)
	d.Stop(1)
	wantErr(t, "Sync", c.Sync(), api.OK)
	wantPending(t, d, 1)
	wantFrames(t, c, clean(1), clean(2))
	wantCounts(t, c, 0, 0, 2, 0)
}

// TestSync: P8.4, P8.6: all is written in order, and flushed: it lasts.
func TestSync(t *testing.T) {
	c, d := newCache(t, 8, 4)
	wantErr(t, "Sync of nothing", c.Sync(), api.OK)
	if _, writes, flushes := d.Counts(); writes != 0 || flushes != 1 {
		t.Error("Sync of nothing", writes, flushes)
	}
	put(t, c, 2, 'b', 9)
	put(t, c, 1, 'a', 3)
	d.Write(7, fill('w'))
	wantErr(t, "Sync", c.Sync(), api.OK)
	wantPending(t, d)
	if _, writes, flushes := d.Counts(); writes != 3 || flushes != 2 {
		t.Error("Sync", writes, flushes)
	}
	wantErr(t, "Crash", d.Crash(nil), api.OK)
	wantDisk(t, d, 1, 'a')
	wantDisk(t, d, 2, 'b')
	wantDisk(t, d, 7, 'w')
	wantFrames(t, c, clean(2), clean(1))
}

// TestDrop: P8.4, P8.5: all that are neither dirty nor pinned are let go, which is not to make room.
func TestDrop(t *testing.T) {
	c, d := newCache(t, 16, 6)
	wantGet(t, c, 1, 1)
	wantPin(t, c, 2, 2)
	put(t, c, 3, 'a', 1)
	wantGet(t, c, 4, 4)
	wantPin(t, c, 5, 5)
	put(t, c, 5, 'b', 2)
	wantGet(t, c, 6, 6)
	if n := c.Drop(); n != 3 {
		t.Error("Drop", n)
	}
	wantFrames(t, c, held(2, 1), dirty(3, 1), api.Frame{Sector: 5, Pins: 1, Dirty: true, Order: 2})
	wantCounts(t, c, 0, 5, 0, 0)
	wantPending(t, d)
	wantErr(t, "Sync", c.Sync(), api.OK)
	wantErr(t, "Unpin", c.Unpin(2), api.OK)
	if n := c.Drop(); n != 2 {
		t.Error("Drop", n)
	}
	wantFrames(t, c, held(5, 1))
	if n := c.Drop(); n != 0 {
		t.Error("Drop", n)
	}
	wantGet(t, c, 3, 'a') // from the disk
	wantCounts(t, c, 0, 6, 2, 0)
	wantErr(t, "Unpin of one that went", c.Unpin(2), api.ErrPins)
}

// TestRoomIsMade: the word to make room, P8.5: a clean one goes unwritten; of a dirty one all up to its order are written, no others; one goes alone.
func TestRoomIsMade(t *testing.T) {
	c, d := newCache(t, 16, 4)
	wantGet(t, c, 1, 1)
	put(t, c, 2, 'b', 5)
	put(t, c, 3, 'c', 2)
	put(t, c, 4, 'd', 6)
	wantGet(t, c, 5, 5)
	wantPending(t, d)
	wantFrames(t, c, dirty(2, 5), dirty(3, 2), dirty(4, 6), clean(5))
	put(t, c, 6, 'f', 1)
	wantPending(t, d, 3, 2)
	wantFrames(t, c, clean(3), dirty(4, 6), clean(5), dirty(6, 1))
	wantCounts(t, c, 0, 2, 2, 2)
	wantPin(t, c, 3, 'c')
	wantPin(t, c, 4, 'd')
	wantGet(t, c, 2, 'b')
	wantFrames(t, c, dirty(6, 1), held(3, 1), api.Frame{Sector: 4, Pins: 1, Dirty: true, Order: 6}, clean(2))
	wantPin(t, c, 6, 'f')
	wantGet(t, c, 7, 7) // those with pins are older
	wantPending(t, d, 3, 2)
	wantGet(t, c, 8, 8)
	wantCounts(t, c, 3, 5, 2, 5)
}

// TestRoomOfOne: P8.8: one frame alone, which is another sector's each time.
func TestRoomOfOne(t *testing.T) {
	c, d := newCache(t, 8, 1)
	put(t, c, 1, 'a', 9)
	put(t, c, 2, 'b', 3)
	wantPending(t, d, 1)
	wantGet(t, c, 1, 'a')
	wantPending(t, d, 1, 2)
	wantFrames(t, c, clean(1))
	wantPin(t, c, 1, 'a')
	wantErr(t, "Put", c.Put(2, fill('x'), 1), api.ErrFull)
	wantErr(t, "Put of the one", c.Put(1, fill('y'), 1), api.OK)
	wantGet(t, c, 1, 'y')
	wantCounts(t, c, 2, 1, 2, 2)
}

// TestManyFrames: P8.1, P8.8: the greatest cache there is holds 4096 sectors at once.
func TestManyFrames(t *testing.T) {
	d := newDisk(t, api.MaxSectors)
	c, e := cache.New(d, api.MaxFrames)
	wantErr(t, "New", e, api.OK)
	for sector := range api.MaxSectors {
		put(t, c, sector, byte(sector/16), uint64(api.MaxSectors-sector))
	}
	wantCounts(t, c, 0, 0, 0, 0)
	wantErr(t, "Sync", c.Sync(), api.OK)
	if n := c.Drop(); n != api.MaxFrames {
		t.Error("Drop", n)
	}
	for sector := range api.MaxSectors {
		if b, e := d.Read(sector); e != api.OK || !bytes.Equal(b, fill(byte(sector/16))) {
			t.Fatal("the disk's", sector, e)
		}
	}
}
