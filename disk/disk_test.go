package disk_test

import (
	"bytes"
	"math"
	"slices"
	"testing"

	"dedup/api"
	"dedup/disk"
)

// fill is a sector of 512 bytes that are all c.
func fill(c byte) []byte { return bytes.Repeat([]byte{c}, 512) }

// newDisk is a disk of so many sectors of 512 bytes.
func newDisk(t *testing.T, count int) *disk.Disk {
	t.Helper()
	d, e := disk.New(512, count)
	if e != api.OK || d == nil {
		t.Fatal("New", count, e)
	}
	return d
}

// write writes a sector of c's.
func write(t *testing.T, d *disk.Disk, n int, c byte) {
	t.Helper()
	if e := d.Write(n, fill(c)); e != api.OK {
		t.Fatal("Write", n, e)
	}
}

// wantReads holds the sectors, from 0 on, against one letter each; '.' is a sector of zeros.
func wantReads(t *testing.T, d *disk.Disk, letters string) {
	t.Helper()
	for n := range len(letters) {
		if b, e := d.Read(n); e != api.OK || !bytes.Equal(b, sectorOf(letters[n])) {
			t.Errorf("sector %d: error %d, bytes %.4q.., want %q", n, e, b, letters[n])
		}
	}
}

// wantImage holds the platter against one letter a sector.
func wantImage(t *testing.T, d *disk.Disk, letters string) {
	t.Helper()
	var want []byte
	for n := range len(letters) {
		want = append(want, sectorOf(letters[n])...)
	}
	if got := d.Image(); !bytes.Equal(got, want) {
		t.Errorf("image is not %q", letters)
	}
}

// sectorOf is the sector that a letter means.
func sectorOf(letter byte) []byte {
	if letter == '.' {
		return fill(0)
	}
	return fill(letter)
}

// wantPending holds the pending writes' sectors.
func wantPending(t *testing.T, d *disk.Disk, want ...int) {
	t.Helper()
	if got := d.Pending(); !slices.Equal(got, want) {
		t.Errorf("pending %v, want %v", got, want)
	}
}

// wantCounts holds the counts.
func wantCounts(t *testing.T, d *disk.Disk, reads, writes, flushes int) {
	t.Helper()
	if r, w, f := d.Counts(); r != reads || w != writes || f != flushes {
		t.Errorf("counts %d %d %d, want %d %d %d", r, w, f, reads, writes, flushes)
	}
}

// TestNew: P3.1, which sizes and counts may be, and that all is 0.
func TestNew(t *testing.T) {
	for size := -5; size <= 2*api.MaxSector+1; size++ {
		d, e := disk.New(size, 3)
		if size == 512 || size == 1024 || size == 2048 || size == 4096 {
			if e != api.OK || d.Size() != size || d.Count() != 3 || !bytes.Equal(d.Image(), make([]byte, 3*size)) {
				t.Error("New", size, e)
			}
		} else if e != api.ErrArg || d != nil {
			t.Error("New", size, "is not refused")
		}
	}
	for _, count := range []int{1, 2, 15, 4095, 4096} {
		d, e := disk.New(512, count)
		if e != api.OK || d.Count() != count || d.Size() != 512 || len(d.Image()) != 512*count {
			t.Error("New of sectors", count, e)
		}
	}
	for _, count := range []int{0, -1, 4097, 1 << 20, math.MaxInt, math.MinInt, math.MaxInt/512 + 2} {
		if d, e := disk.New(512, count); e != api.ErrArg || d != nil {
			t.Error("New of sectors", count, e)
		}
	}
	for _, size := range []int{math.MaxInt, math.MinInt, -512, 1 << 62} {
		if d, e := disk.New(size, 1); e != api.ErrArg || d != nil {
			t.Error("New", size, e)
		}
	}
}

// TestNewIsStill: P3.1, P3.2, P3.3: nothing is pending, counted or stopped on a new disk.
func TestNewIsStill(t *testing.T) {
	d := newDisk(t, 2)
	wantPending(t, d)
	wantCounts(t, d, 0, 0, 0)
	if d.Off() || d.Flush() != 0 {
		t.Error("a new disk")
	}
	wantReads(t, d, "..")
}

// TestLoad: P3.1, which images may be, and that the platter has their bytes.
func TestLoad(t *testing.T) {
	for _, size := range []int{512, 1024, 2048, 4096} {
		image := make([]byte, 3*size)
		for i := range image {
			image[i] = byte(i*7 + i/256)
		}
		d, e := disk.Load(size, image)
		if e != api.OK || d.Size() != size || d.Count() != 3 || !bytes.Equal(d.Image(), image) {
			t.Fatal("Load", size, e)
		}
		for n := range 3 {
			if b, e := d.Read(n); e != api.OK || !bytes.Equal(b, image[n*size:(n+1)*size]) {
				t.Error("Read of a loaded sector", size, n, e)
			}
		}
		wantPending(t, d)
		for _, length := range []int{0, 1, size - 1, size + 1, 2*size + size/2, 3*size - 1} {
			if d, e := disk.Load(size, image[:length]); e != api.ErrArg || d != nil {
				t.Error("Load", size, length, e)
			}
		}
	}
	if d, e := disk.Load(512, make([]byte, 512*4096)); e != api.OK || d.Count() != 4096 {
		t.Error("Load of 4096 sectors", e)
	}
	if d, e := disk.Load(512, make([]byte, 512*4097)); e != api.ErrArg || d != nil {
		t.Error("Load of 4097 sectors", e)
	}
	for _, size := range []int{0, 1, -1, -512, 256, 511, 513, 768, 8192, math.MaxInt, math.MinInt} {
		if d, e := disk.Load(size, make([]byte, 8192)); e != api.ErrArg || d != nil {
			t.Error("Load", size, e)
		}
	}
	if d, e := disk.Load(512, nil); e != api.ErrArg || d != nil {
		t.Error("Load of nothing", e)
	}
}

// TestExample: the chapter's example.
func TestExample(t *testing.T) {
	d := newDisk(t, 4)
	write(t, d, 1, 'a')
	write(t, d, 1, 'b')
	write(t, d, 3, 'c')
	wantPending(t, d, 1, 1, 3)
	wantReads(t, d, ".b.c")
	wantImage(t, d, "....")
	if d.Crash([]int{5}) != api.ErrArg || d.Crash([]int{0, 2}) != api.OK {
		t.Error("Crash")
	}
	wantReads(t, d, ".a.c")
	wantImage(t, d, ".a.c")
	wantPending(t, d)
}

// TestRefusals: P3.2, P3.3: sectors that are not there and bytes that are no sector's are refused, and nothing is counted or changed.
func TestRefusals(t *testing.T) {
	d := newDisk(t, 3)
	write(t, d, 2, 'a')
	for _, n := range []int{-1, 3, 4, math.MaxInt, math.MinInt} {
		if b, e := d.Read(n); e != api.ErrSector || len(b) != 0 {
			t.Error("Read", n, e)
		}
		if e := d.Write(n, fill('x')); e != api.ErrSector {
			t.Error("Write", n, e)
		}
	}
	for _, length := range []int{0, 1, 511, 513, 1024} {
		if e := d.Write(0, make([]byte, length)); e != api.ErrSector {
			t.Error("Write of bytes", length, e)
		}
	}
	if e := d.Write(0, nil); e != api.ErrSector {
		t.Error("Write of nil", e)
	}
	wantPending(t, d, 2)
	wantCounts(t, d, 0, 1, 0)
	wantReads(t, d, "..a")
}

// TestFlush: P3.2, P3.4: what is pending lasts, in the order of the writes, and how many there were is told.
func TestFlush(t *testing.T) {
	d := newDisk(t, 3)
	write(t, d, 0, 'a')
	write(t, d, 2, 'b')
	write(t, d, 0, 'c')
	wantImage(t, d, "...")
	if n := d.Flush(); n != 3 {
		t.Error("Flush", n)
	}
	wantImage(t, d, "c.b")
	wantPending(t, d)
	if n := d.Flush(); n != 0 {
		t.Error("Flush of nothing", n)
	}
	write(t, d, 2, 'd')
	if e := d.Crash(nil); e != api.OK {
		t.Error("Crash", e)
	}
	wantReads(t, d, "c.b")
	wantImage(t, d, "c.b")
	wantCounts(t, d, 3, 4, 2)
}

// TestCrashRefused: P3.2: places that do not rise, or are none; nothing is changed then.
func TestCrashRefused(t *testing.T) {
	d := newDisk(t, 3)
	for i, n := range []int{0, 1, 0} {
		write(t, d, n, byte('a'+i))
	}
	for _, keep := range [][]int{{-1}, {3}, {0, 3}, {0, 0}, {2, 2}, {1, 0}, {0, 2, 1}, {-1, 0}, {math.MaxInt}, {math.MinInt, 0}, {0, 1, 2, 3}, {2, math.MinInt}, {0, math.MaxInt}} {
		if e := d.Crash(keep); e != api.ErrArg {
			t.Error("Crash", keep, e)
		}
	}
	wantPending(t, d, 0, 1, 0)
	wantReads(t, d, "cb.")
	wantImage(t, d, "...")
	if e := d.Crash([]int{0, 1, 2}); e != api.OK {
		t.Error("Crash of all", e)
	}
	wantImage(t, d, "cb.")
	if e := d.Crash([]int{0}); e != api.ErrArg {
		t.Error("Crash of a place of an empty list", e)
	}
	if e := d.Crash([]int{}); e != api.OK {
		t.Error("Crash of nothing", e)
	}
}

// TestCrashCounts: P3.3: a crash is no flush.
func TestCrashCounts(t *testing.T) {
	d := newDisk(t, 1)
	write(t, d, 0, 'a')
	d.Crash([]int{0})
	wantCounts(t, d, 0, 1, 0)
	d.Image()
	d.Pending()
	d.Flush()
	wantCounts(t, d, 0, 1, 1)
}

// TestStop: P3.8: so many writes and flushes are done; then the power is gone.
func TestStop(t *testing.T) {
	d := newDisk(t, 3)
	d.Stop(3)
	write(t, d, 0, 'a')
	if d.Write(9, fill('x')) != api.ErrSector || d.Write(0, nil) != api.ErrSector || d.Off() {
		t.Error("what is refused takes no power")
	}
	d.Read(0)
	if n := d.Flush(); n != 1 || d.Off() {
		t.Error("Flush", n, d.Off())
	}
	write(t, d, 1, 'b')
	if !d.Off() {
		t.Error("behind the third one the power is gone")
	}
	wantCounts(t, d, 1, 2, 1)

	write(t, d, 2, 'c')
	write(t, d, 0, 'd')
	if d.Write(3, fill('x')) != api.ErrSector || d.Write(-1, fill('x')) != api.ErrSector || d.Write(0, fill('x')[1:]) != api.ErrSector {
		t.Error("without power it is told what would be told")
	}
	if n := d.Flush(); n != 1 {
		t.Error("Flush without power", n)
	}
	wantPending(t, d, 1)
	wantReads(t, d, "ab.")
	wantImage(t, d, "a..")
	wantCounts(t, d, 4, 2, 1)
}

// TestStopEnds: P3.8: a crash that is not refused brings the power back, and nothing is stopped then; a Stop below 0 too.
func TestStopEnds(t *testing.T) {
	d := newDisk(t, 2)
	write(t, d, 0, 'a')
	d.Stop(0)
	if !d.Off() {
		t.Error("Stop(0)")
	}
	if d.Crash([]int{1}) != api.ErrArg || !d.Off() {
		t.Error("a crash that is refused changes nothing")
	}
	if d.Crash([]int{0}) != api.OK || d.Off() {
		t.Error("a crash brings the power back")
	}
	wantImage(t, d, "a.")
	for range 5 {
		write(t, d, 1, 'b')
	}
	if d.Flush() != 5 || d.Off() {
		t.Error("nothing is stopped behind a crash")
	}

	d.Stop(2)
	if d.Crash(nil) != api.OK || d.Off() {
		t.Error("a crash ahead of the stop")
	}
	for range 3 {
		write(t, d, 0, 'c')
	}
	wantPending(t, d, 0, 0, 0)

	d.Stop(0)
	d.Stop(-1)
	if d.Off() {
		t.Error("Stop(-1)")
	}
	write(t, d, 1, 'd')
	if d.Flush() != 4 || d.Off() {
		t.Error("nothing is stopped behind Stop(-1)")
	}
	wantImage(t, d, "cd")

	d.Stop(1)
	d.Stop(math.MinInt)
	write(t, d, 1, 'e')
	write(t, d, 1, 'f')
	wantReads(t, d, "cf")
}

// TestStopAgain: P3.8: the last Stop counts, and Stop of a great number stops nothing soon.
func TestStopAgain(t *testing.T) {
	d := newDisk(t, 1)
	d.Stop(1)
	d.Stop(2)
	write(t, d, 0, 'a')
	if d.Off() {
		t.Error("the second Stop says 2")
	}
	d.Flush()
	if !d.Off() {
		t.Error("two were done")
	}
	d.Stop(1)
	if d.Off() {
		t.Error("one more may be done")
	}
	write(t, d, 0, 'b')
	write(t, d, 0, 'c')
	wantReads(t, d, "b")
	if !d.Off() {
		t.Error("one was done")
	}
	d.Stop(math.MaxInt)
	write(t, d, 0, 'd')
	if d.Off() || d.Flush() != 2 {
		t.Error("Stop of a great number")
	}
	wantImage(t, d, "d")
}

// TestFlushOfNothingTakesPower: P3.8: a flush is one of those that are counted, also if nothing is pending.
func TestFlushOfNothingTakesPower(t *testing.T) {
	d := newDisk(t, 1)
	d.Stop(1)
	if d.Flush() != 0 || !d.Off() {
		t.Error("Flush")
	}
	wantCounts(t, d, 0, 0, 1)
	if d.Flush() != 0 {
		t.Error("Flush without power")
	}
	wantCounts(t, d, 0, 0, 1)
}

// TestFork: P3.3: a fork is the same in all, and what is done to one is not done to the other.
func TestFork(t *testing.T) {
	d := newDisk(t, 3)
	write(t, d, 0, 'a')
	d.Flush()
	write(t, d, 1, 'b')
	d.Read(0)
	d.Stop(2)
	f := d.Fork()
	if f == d || f.Size() != 512 || f.Count() != 3 || f.Off() {
		t.Fatal("Fork")
	}
	wantCounts(t, f, 1, 2, 1)
	wantPending(t, f, 1)
	wantImage(t, f, "a..")

	write(t, f, 0, 'c')
	write(t, f, 2, 'd')
	if !f.Off() || d.Off() {
		t.Error("the power of one is not the other's")
	}
	wantPending(t, d, 1)
	write(t, d, 2, 'e')
	d.Flush()
	wantImage(t, d, "abe")
	wantImage(t, f, "a..")
	wantPending(t, f, 1, 0, 2)
	if e := f.Crash([]int{1}); e != api.OK {
		t.Error("Crash", e)
	}
	wantReads(t, f, "c..")
	wantReads(t, d, "abe")
	if !d.Off() || f.Off() {
		t.Error("a crash of one is not the other's")
	}
	g := d.Fork()
	if !g.Off() {
		t.Error("a fork of a disk without power has none")
	}
	d.Crash(nil)
	if !g.Off() {
		t.Error("the power came back to one alone")
	}
}

// TestForkPending: P3.3: writes behind a fork do not meet in the room behind the list of pending ones.
func TestForkPending(t *testing.T) {
	d := newDisk(t, 4)
	for n := range 3 {
		write(t, d, n, 'a')
	}
	f := d.Fork()
	write(t, d, 3, 'b')
	write(t, f, 3, 'c')
	d.Flush()
	f.Flush()
	wantImage(t, d, "aaab")
	wantImage(t, f, "aaac")
}

// TestShares: P3.2, P3.3 with R3: what is handed in is not kept, and what is answered is not the disk's.
func TestShares(t *testing.T) {
	image := append(fill('a'), fill('b')...)
	d, _ := disk.Load(512, image)
	clear(image)
	wantImage(t, d, "ab")

	b := fill('c')
	d.Write(0, b)
	clear(b)
	wantReads(t, d, "cb")

	read, _ := d.Read(0)
	clear(read[:cap(read)])
	read, _ = d.Read(1)
	clear(read[:cap(read)])
	wantReads(t, d, "cb")

	clear(d.Image())
	wantImage(t, d, "ab")

	pending := d.Pending()
	pending[0] = 1
	wantPending(t, d, 0)

	keep := []int{0, 7}
	if d.Crash(keep[:1]) != api.OK || keep[0] != 0 || keep[1] != 7 {
		t.Error("Crash changed what it was given", keep)
	}

	zeros := newDisk(t, 2)
	read, _ = zeros.Read(0)
	read[0] = 'x'
	wantReads(t, zeros, "..")
	write(t, zeros, 0, 'a')
	zeros.Flush()
	wantReads(t, zeros, "a.")
}

// TestNilDisk: P3.3: what a nil disk tells.
func TestNilDisk(t *testing.T) {
	var d *disk.Disk
	if e := d.Write(0, fill('a')); e != api.ErrClosed {
		t.Error("Write", e)
	}
	if b, e := d.Read(0); e != api.ErrClosed || b != nil {
		t.Error("Read", e)
	}
	if e := d.Crash([]int{-1}); e != api.ErrClosed {
		t.Error("Crash", e)
	}
	d.Stop(0)
	if d.Flush() != 0 || d.Off() || d.Size() != 0 || d.Count() != 0 || len(d.Pending()) != 0 || len(d.Image()) != 0 || d.Fork() != nil {
		t.Error("a nil disk tells something")
	}
	wantCounts(t, d, 0, 0, 0)
}
