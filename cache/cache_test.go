package cache_test

import (
	"bytes"
	"math"
	"slices"
	"testing"

	"dedup/api"
	"dedup/cache"
	"dedup/disk"
)

// fill is a sector of 512 bytes that are all c.
func fill(c byte) []byte { return bytes.Repeat([]byte{c}, 512) }

// newDisk is a disk of so many sectors of 512 bytes; each has its number as its bytes.
func newDisk(t *testing.T, count int) *disk.Disk {
	t.Helper()
	var image []byte
	for n := range count {
		image = append(image, fill(byte(n))...)
	}
	d, e := disk.Load(512, image)
	if e != api.OK {
		t.Fatal("Load", count, e)
	}
	return d
}

// newCache is a cache of a new disk.
func newCache(t *testing.T, sectors, frames int) (*cache.Cache, *disk.Disk) {
	t.Helper()
	d := newDisk(t, sectors)
	c, e := cache.New(d, frames)
	if e != api.OK || c == nil {
		t.Fatal("New", frames, e)
	}
	return c, d
}

// wantErr holds what a call told.
func wantErr(t *testing.T, what string, got, want api.Errno) {
	t.Helper()
	if got != want {
		t.Errorf("%s: error %d, want %d", what, got, want)
	}
}

// wantGet gets a sector, all bytes of which are c.
func wantGet(t *testing.T, c *cache.Cache, sector int, b byte) {
	t.Helper()
	if got, e := c.Get(sector); e != api.OK || !bytes.Equal(got, fill(b)) {
		t.Errorf("Get %d: error %d, bytes %.4v.., want %d", sector, e, got, b)
	}
}

// wantPin pins a sector, all bytes of which are c.
func wantPin(t *testing.T, c *cache.Cache, sector int, b byte) {
	t.Helper()
	if got, e := c.Pin(sector); e != api.OK || !bytes.Equal(got, fill(b)) {
		t.Errorf("Pin %d: error %d, bytes %.4v.., want %d", sector, e, got, b)
	}
}

// wantRefused gets and pins a sector, which is refused.
func wantRefused(t *testing.T, c *cache.Cache, sector int, want api.Errno) {
	t.Helper()
	if b, e := c.Get(sector); e != want || len(b) != 0 {
		t.Errorf("Get %d: error %d, want %d", sector, e, want)
	}
	if b, e := c.Pin(sector); e != want || len(b) != 0 {
		t.Errorf("Pin %d: error %d, want %d", sector, e, want)
	}
}

// put puts a sector of b's, which is not refused.
func put(t *testing.T, c *cache.Cache, sector int, b byte, order uint64) {
	t.Helper()
	if e := c.Put(sector, fill(b), order); e != api.OK {
		t.Errorf("Put %d %d: error %d", sector, order, e)
	}
}

// clean, held, dirty are frames: without pins and clean, with pins and clean, without pins and dirty.
func clean(sector int) api.Frame      { return api.Frame{Sector: sector} }
func held(sector, pins int) api.Frame { return api.Frame{Sector: sector, Pins: pins} }
func dirty(sector int, order uint64) api.Frame {
	return api.Frame{Sector: sector, Dirty: true, Order: order}
}

// wantFrames holds all frames, the one used longest ago first.
func wantFrames(t *testing.T, c *cache.Cache, want ...api.Frame) {
	t.Helper()
	if got := c.Frames(); !slices.Equal(got, want) {
		t.Errorf("frames %v, want %v", got, want)
	}
}

// wantCounts holds the counts.
func wantCounts(t *testing.T, c *cache.Cache, hits, misses, writes, gone int) {
	t.Helper()
	want := api.Caching{Hits: hits, Misses: misses, Writes: writes, Gone: gone}
	if got := c.Counts(); got != want {
		t.Errorf("counts %v, want %v", got, want)
	}
}

// wantPending holds the sectors of the disk's pending writes.
func wantPending(t *testing.T, d *disk.Disk, want ...int) {
	t.Helper()
	if got := d.Pending(); !slices.Equal(got, want) {
		t.Errorf("pending %v, want %v", got, want)
	}
}

// wantDisk holds a sector as the disk reads.
func wantDisk(t *testing.T, d *disk.Disk, sector int, b byte) {
	t.Helper()
	if got, e := d.Read(sector); e != api.OK || !bytes.Equal(got, fill(b)) {
		t.Errorf("the disk's %d: error %d, bytes %.4v.., want %d", sector, e, got, b)
	}
}

// shrink lets a disk have fewer sectors, so that it refuses writes of the others.
func shrink(t *testing.T, d *disk.Disk, sectors int) {
	t.Helper()
	*d = *newDisk(t, sectors)
}

// TestNew: P8.1, which numbers of frames may be; a new cache is without frames, and has done nothing.
func TestNew(t *testing.T) {
	d := newDisk(t, 3)
	for _, frames := range []int{1, 2, 3, 4095, 4096} {
		c, e := cache.New(d, frames)
		if e != api.OK || len(c.Frames()) != 0 || c.Counts() != (api.Caching{}) || c.Drop() != 0 {
			t.Error("New", frames, e)
		}
		if c, e := cache.New(nil, frames); e != api.ErrArg || c != nil {
			t.Error("New of no disk", frames, e)
		}
	}
	for _, frames := range []int{0, -1, 4097, 1 << 32, math.MaxInt, math.MinInt} {
		if c, e := cache.New(d, frames); e != api.ErrArg || c != nil {
			t.Error("New", frames, e)
		}
	}
	if r, w, f := d.Counts(); r+w+f != 0 {
		t.Error("the disk was used", r, w, f)
	}
}

// TestOneDisk: P8.1: the disk is used, not copied.
func TestOneDisk(t *testing.T) {
	c, d := newCache(t, 4, 4)
	d.Write(2, fill('d'))
	wantGet(t, c, 2, 'd')
	put(t, c, 3, 'c', 1)
	wantErr(t, "WriteUpTo", c.WriteUpTo(1), api.OK)
	wantDisk(t, d, 3, 'c')
	other, e := cache.New(d, 4)
	wantErr(t, "New", e, api.OK)
	wantGet(t, other, 3, 'c')
	wantFrames(t, other, clean(3))
}

// TestExamples: the chapter's examples.
func TestExamples(t *testing.T) {
	c, _ := newCache(t, 16, 2)
	for _, sector := range []int{5, 6, 5, 7} {
		wantGet(t, c, sector, byte(sector))
	}
	wantFrames(t, c, clean(5), clean(7))
	wantPin(t, c, 5, 5)
	wantPin(t, c, 7, 7)
	wantRefused(t, c, 8, api.ErrFull)
	wantFrames(t, c, held(5, 1), held(7, 1))

	c, d := newCache(t, 16, 2)
	put(t, c, 5, 'a', 3)
	put(t, c, 6, 'b', 1)
	wantErr(t, "WriteUpTo", c.WriteUpTo(2), api.OK)
	wantPending(t, d, 6)
	wantFrames(t, c, dirty(5, 3), clean(6))
}

// TestGet: P8.2, P8.5: a frame's bytes are a hit and used; else the disk is read, a miss.
func TestGet(t *testing.T) {
	c, d := newCache(t, 8, 3)
	wantGet(t, c, 1, 1)
	wantGet(t, c, 2, 2)
	wantCounts(t, c, 0, 2, 0, 0)
	d.Write(1, fill('x'))
	wantGet(t, c, 1, 1)
	wantFrames(t, c, clean(2), clean(1))
	wantCounts(t, c, 1, 2, 0, 0)
	wantGet(t, c, 3, 3)
	wantGet(t, c, 4, 4)
	wantFrames(t, c, clean(1), clean(3), clean(4))
	wantCounts(t, c, 1, 4, 0, 1)
	if reads, _, _ := d.Counts(); reads != 4 {
		t.Error("the disk was read", reads)
	}
}

// TestGetRefused: P8.2, P8.5, R2: what the disk refuses is told, and nothing is counted or let go; it is told ahead of that all have pins.
func TestGetRefused(t *testing.T) {
	c, _ := newCache(t, 4, 1)
	wantGet(t, c, 2, 2)
	for _, sector := range []int{-1, 4, 5, math.MaxInt, math.MinInt} {
		wantRefused(t, c, sector, api.ErrSector)
	}
	wantPin(t, c, 2, 2)
	wantRefused(t, c, 4, api.ErrSector)
	wantFrames(t, c, held(2, 1))
	wantCounts(t, c, 1, 1, 0, 0)
}

// TestGetFull: P8.2, P8.5: with pins on all there is no room; that is a miss each time, and nothing else has changed.
func TestGetFull(t *testing.T) {
	c, d := newCache(t, 8, 2)
	wantPin(t, c, 1, 1)
	put(t, c, 2, 'b', 7)
	wantPin(t, c, 2, 'b')
	wantRefused(t, c, 3, api.ErrFull)
	wantErr(t, "Put", c.Put(3, fill('c'), 9), api.ErrFull)
	wantCounts(t, c, 1, 3, 0, 0)
	wantFrames(t, c, held(1, 1), api.Frame{Sector: 2, Pins: 1, Dirty: true, Order: 7})
	wantPending(t, d)
	wantGet(t, c, 1, 1)
	wantErr(t, "Unpin", c.Unpin(2), api.OK)
	wantGet(t, c, 3, 3)
	wantFrames(t, c, held(1, 1), clean(3))
	wantPending(t, d, 2)
}

// TestPins: P8.2: pins are counted, by Pin and Unpin alone, and only Pin uses.
func TestPins(t *testing.T) {
	c, _ := newCache(t, 8, 4)
	for _, sector := range []int{-1, 0, 3, 8, math.MaxInt, math.MinInt} {
		wantErr(t, "Unpin of no frame", c.Unpin(sector), api.ErrPins)
	}
	wantGet(t, c, 3, 3)
	wantErr(t, "Unpin without pins", c.Unpin(3), api.ErrPins)
	wantPin(t, c, 3, 3)
	wantPin(t, c, 3, 3)
	wantPin(t, c, 4, 4)
	wantFrames(t, c, held(3, 2), held(4, 1))
	wantCounts(t, c, 2, 2, 0, 0)
	wantErr(t, "Unpin", c.Unpin(3), api.OK)
	wantFrames(t, c, held(3, 1), held(4, 1))
	wantPin(t, c, 3, 3)
	wantFrames(t, c, held(4, 1), held(3, 2))
	wantErr(t, "Unpin", c.Unpin(3), api.OK)
	wantErr(t, "Unpin", c.Unpin(3), api.OK)
	wantErr(t, "Unpin once more", c.Unpin(3), api.ErrPins)
	wantFrames(t, c, held(4, 1), clean(3))
	put(t, c, 4, 'p', 2)
	wantFrames(t, c, clean(3), api.Frame{Sector: 4, Pins: 1, Dirty: true, Order: 2})
	wantErr(t, "Unpin of a dirty one", c.Unpin(4), api.OK)
	wantErr(t, "Unpin of a dirty one", c.Unpin(4), api.ErrPins)
	wantFrames(t, c, clean(3), dirty(4, 2))
}

// TestPut: P8.3: bytes, order and use of a frame that is there, clean or dirty, and of one that is not; neither a hit nor a miss.
func TestPut(t *testing.T) {
	c, d := newCache(t, 8, 4)
	put(t, c, 5, 'a', 3)
	wantGet(t, c, 6, 6)
	put(t, c, 5, 'b', 3)
	wantFrames(t, c, clean(6), dirty(5, 3))
	wantGet(t, c, 5, 'b')
	put(t, c, 6, 'c', 0)
	wantFrames(t, c, dirty(5, 3), dirty(6, 0))
	put(t, c, 5, 'd', math.MaxUint64)
	wantFrames(t, c, dirty(6, 0), dirty(5, math.MaxUint64))
	wantGet(t, c, 6, 'c')
	wantGet(t, c, 5, 'd')
	wantCounts(t, c, 3, 1, 0, 0)
	wantPending(t, d)
	wantErr(t, "Sync", c.Sync(), api.OK)
	put(t, c, 5, 'e', 1) // clean: any order may be
	wantFrames(t, c, clean(6), dirty(5, 1))
	wantDisk(t, d, 5, 'd')
}

// TestPutRefused: P8.3, R2: no such sector, bytes that are no sector's, an order below that of a dirty frame; nothing has changed.
func TestPutRefused(t *testing.T) {
	c, d := newCache(t, 8, 1)
	put(t, c, 5, 'a', 3)
	for _, sector := range []int{-1, 8, 9, math.MaxInt, math.MinInt} {
		wantErr(t, "Put of no sector", c.Put(sector, fill('x'), 9), api.ErrSector)
	}
	for _, length := range []int{0, 1, 511, 513, 1024} {
		wantErr(t, "Put of other bytes", c.Put(4, make([]byte, length), 9), api.ErrSector)
		wantErr(t, "Put of other bytes", c.Put(5, make([]byte, length), 0), api.ErrSector)
	}
	wantErr(t, "Put of nil", c.Put(5, nil, 9), api.ErrSector)
	for _, order := range []uint64{0, 1, 2} {
		wantErr(t, "Put of a lower order", c.Put(5, fill('x'), order), api.ErrOrder)
	}
	wantFrames(t, c, dirty(5, 3))
	wantGet(t, c, 5, 'a')
	wantPin(t, c, 5, 'a')
	wantErr(t, "Put of a lower order with pins", c.Put(5, fill('x'), 2), api.ErrOrder)
	wantErr(t, "Put of no sector with pins", c.Put(8, fill('x'), 2), api.ErrSector)
	wantErr(t, "Put where all have pins", c.Put(6, fill('x'), 2), api.ErrFull)
	wantPending(t, d)
	wantCounts(t, c, 2, 0, 0, 0)
}

// TestRefusedOrderIsNoUse: P8.3, R2: a Put that is refused does not use the frame.
func TestRefusedOrderIsNoUse(t *testing.T) {
	c, _ := newCache(t, 8, 3)
	put(t, c, 1, 'a', 5)
	wantGet(t, c, 2, 2)
	wantErr(t, "Put", c.Put(1, fill('x'), 4), api.ErrOrder)
	wantFrames(t, c, dirty(1, 5), clean(2))
}

// TestNotMade: P8.5, R1: of a Cache that is nil, or that New did not give.
func TestNotMade(t *testing.T) {
	for _, c := range []*cache.Cache{nil, {}} {
		wantRefused(t, c, 0, api.ErrClosed)
		wantErr(t, "Unpin", c.Unpin(0), api.ErrClosed)
		wantErr(t, "Put", c.Put(0, fill(1), 1), api.ErrClosed)
		wantErr(t, "Put", c.Put(-1, nil, 1), api.ErrClosed)
		wantErr(t, "WriteUpTo", c.WriteUpTo(1), api.ErrClosed)
		wantErr(t, "Sync", c.Sync(), api.ErrClosed)
		if c.Drop() != 0 || c.Frames() != nil || c.Counts() != (api.Caching{}) {
			t.Error("Drop, Frames or Counts of none")
		}
	}
}

// TestNothingShared: R3: bytes that are handed in are not kept, bytes and frames that are told are new.
func TestNothingShared(t *testing.T) {
	c, d := newCache(t, 4, 4)
	b := fill('a')
	wantErr(t, "Put", c.Put(1, b, 2), api.OK)
	clear(b)
	wantGet(t, c, 1, 'a')
	for _, sector := range []int{1, 2} {
		got, _ := c.Get(sector)
		clear(got[:cap(got)])
		pinned, _ := c.Pin(sector)
		clear(pinned[:cap(pinned)])
	}
	wantGet(t, c, 1, 'a')
	wantGet(t, c, 2, 2)
	l := c.Frames()
	clear(l[:cap(l)])
	wantFrames(t, c, api.Frame{Sector: 1, Pins: 1, Dirty: true, Order: 2}, held(2, 1))
	wantErr(t, "Sync", c.Sync(), api.OK)
	wantDisk(t, d, 1, 'a')
	put(t, c, 1, 'b', 1)
	wantDisk(t, d, 1, 'a')
}
