package disk_test

import (
	"bytes"
	"math/rand"
	"slices"
	"testing"

	"dedup/api"
	"dedup/disk"
)

// plain is a disk by the chapter's words alone: a platter, and a list of writes that is looked through.
type plain struct {
	platter [][]byte
	pending []api.Sector
	left    int // below 0: nothing is stopped
	counts  [3]int
}

func newPlain(count int) *plain {
	p := &plain{left: -1}
	for range count {
		p.platter = append(p.platter, fill(0))
	}
	return p
}

func (p *plain) fork() *plain {
	q := *p
	q.platter = slices.Clone(p.platter)
	q.pending = slices.Clone(p.pending)
	return &q
}

func (p *plain) read(n int) []byte {
	p.counts[0]++
	for _, w := range slices.Backward(p.pending) {
		if w.N == n {
			return w.Bytes
		}
	}
	return p.platter[n]
}

func (p *plain) done() bool {
	if p.left == 0 {
		return false
	}
	if p.left > 0 {
		p.left--
	}
	return true
}

func (p *plain) write(n int, b []byte) {
	if p.done() {
		p.pending = append(p.pending, api.Sector{N: n, Bytes: b})
		p.counts[1]++
	}
}

func (p *plain) flush() int {
	n := len(p.pending)
	if p.done() {
		p.put(p.pending)
		p.pending = nil
		p.counts[2]++
	}
	return n
}

func (p *plain) put(l []api.Sector) {
	for _, w := range l {
		p.platter[w.N] = w.Bytes
	}
}

func (p *plain) crash(keep []int) {
	var kept []api.Sector
	for _, i := range keep {
		kept = append(kept, p.pending[i])
	}
	p.put(kept)
	p.pending, p.left = nil, -1
}

// same holds a disk against a plain one.
func same(t *testing.T, d *disk.Disk, p *plain) {
	t.Helper()
	if !bytes.Equal(d.Image(), bytes.Join(p.platter, nil)) {
		t.Fatal("the images differ")
	}
	var sectors []int
	for _, w := range p.pending {
		sectors = append(sectors, w.N)
	}
	wantPending(t, d, sectors...)
	wantCounts(t, d, p.counts[0], p.counts[1], p.counts[2])
	if d.Off() != (p.left == 0) {
		t.Error("Off", d.Off(), p.left)
	}
	for n := range p.platter {
		if b, e := d.Read(n); e != api.OK || !bytes.Equal(b, p.read(n)) {
			t.Error("Read", n, e)
		}
	}
}

// someOf is rising places of a list, by chance.
func someOf(r *rand.Rand, length int) []int {
	var l []int
	for i := range length {
		if r.Intn(2) == 0 {
			l = append(l, i)
		}
	}
	return l
}

// step does one thing to both.
func step(t *testing.T, r *rand.Rand, d *disk.Disk, p *plain) {
	switch k := r.Intn(20); {
	case k < 13:
		n, b := r.Intn(len(p.platter)), fill(byte(1+r.Intn(255)))
		b[r.Intn(512)] = byte(r.Intn(256))
		if e := d.Write(n, b); e != api.OK {
			t.Fatal("Write", e)
		}
		p.write(n, b)
	case k < 15:
		if got, want := d.Flush(), p.flush(); got != want {
			t.Fatal("Flush", got, want)
		}
	case k < 17:
		keep := someOf(r, len(p.pending))
		if e := d.Crash(keep); e != api.OK {
			t.Fatal("Crash", keep, e)
		}
		p.crash(keep)
	default:
		n := r.Intn(12) - 2
		d.Stop(n)
		p.left = max(n, -1)
	}
}

// TestPlain: P3.2, P3.3, P3.8: long ways of all calls, with forks that go on each for itself, are told as the chapter's words say.
func TestPlain(t *testing.T) {
	r := rand.New(rand.NewSource(3))
	for range 20 {
		disks, plains := []*disk.Disk{newDisk(t, 5)}, []*plain{newPlain(5)}
		for range 150 {
			i := r.Intn(len(disks))
			step(t, r, disks[i], plains[i])
			if len(disks) < 4 && r.Intn(30) == 0 {
				disks, plains = append(disks, disks[i].Fork()), append(plains, plains[i].fork())
			}
			for j := range disks {
				same(t, disks[j], plains[j])
			}
		}
		if t.Failed() {
			return
		}
	}
}

// busy is a disk of 5 sectors with a platter and so many pending writes, all of different bytes.
func busy(t *testing.T, r *rand.Rand, writes int) *disk.Disk {
	d := newDisk(t, 5)
	next := byte(0)
	put := func(n int) {
		next++
		write(t, d, n, next)
	}
	for n := range 5 {
		put(n)
	}
	d.Flush()
	for range writes {
		put(r.Intn(5))
	}
	return d
}

// TestSectorIsWhole: P3.4, P3.5: behind any crash each sector is as the platter had it or as a pending write of it that was kept; one that was not written since the flush is as it was.
func TestSectorIsWhole(t *testing.T) {
	r := rand.New(rand.NewSource(5))
	d := busy(t, r, 7)
	old, pending := d.Image(), d.Pending()
	for set := range 1 << 7 {
		var keep []int
		last := map[int]int{}
		for i, n := range pending {
			if set>>i&1 == 1 {
				keep = append(keep, i)
				last[n] = i
			}
		}
		f := d.Fork()
		if e := f.Crash(keep); e != api.OK {
			t.Fatal("Crash", keep, e)
		}
		for n := range 5 {
			want := old[n*512 : (n+1)*512]
			if i, ok := last[n]; ok {
				want = fill(byte(6 + i)) // busy's letters: 1 to 5 on the platter, 6 and so on pending
			}
			if b, e := f.Read(n); e != api.OK || !bytes.Equal(b, want) {
				t.Error("behind", keep, "sector", n)
			}
			if !slices.Contains(pending, n) && !bytes.Equal(want, fill(byte(n+1))) {
				t.Error("flushed, and not written again", n)
			}
		}
	}
}

// TestCrashOfAllIsAFlush: P3.6: a crash that keeps all is a flush; one that keeps nothing leaves the image.
func TestCrashOfAllIsAFlush(t *testing.T) {
	r := rand.New(rand.NewSource(6))
	for writes := range 12 {
		d := busy(t, r, writes)
		old := d.Image()
		all, none, flushed := d.Fork(), d.Fork(), d.Fork()
		keep := make([]int, writes)
		for i := range keep {
			keep[i] = i
		}
		if all.Crash(keep) != api.OK || none.Crash(nil) != api.OK || flushed.Flush() != writes {
			t.Fatal("refused", writes)
		}
		if !bytes.Equal(all.Image(), flushed.Image()) || !bytes.Equal(none.Image(), old) {
			t.Error("images", writes)
		}
		wantPending(t, all)
		wantPending(t, none)
		wantPending(t, flushed)
	}
}

// TestCrashesBehindOneAnother: P3.7: what one crash kept no later one loses, unless a write that was kept later replaces it.
func TestCrashesBehindOneAnother(t *testing.T) {
	r := rand.New(rand.NewSource(7))
	for range 100 {
		d := busy(t, r, 4)
		if d.Crash(someOf(r, 4)) != api.OK {
			t.Fatal("Crash")
		}
		kept := d.Image()
		for range 3 {
			write(t, d, r.Intn(5), 200)
			if d.Crash(nil) != api.OK || !bytes.Equal(d.Image(), kept) {
				t.Fatal("a later crash lost what was kept")
			}
		}
		write(t, d, 3, 201)
		write(t, d, 3, 202)
		if d.Crash([]int{0}) != api.OK {
			t.Fatal("Crash")
		}
		copy(kept[3*512:], fill(201))
		if !bytes.Equal(d.Image(), kept) {
			t.Fatal("a later crash changed another sector")
		}
	}
}
