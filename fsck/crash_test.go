package fsck_test

import (
	"fmt"
	"math/rand"
	"slices"
	"strings"
	"testing"

	"dedup/api"
	"dedup/disk"
	"dedup/fs"
	"dedup/fsck"
)

// anyName is a path that may be there.
func anyName(r *rand.Rand) string {
	p := "/" + string("abcd"[r.Intn(4)])
	if r.Intn(3) == 0 {
		return "/d" + p
	}
	return p
}

// anyOp is a call of any kind.
func anyOp(r *rand.Rand) api.Op {
	h, data := r.Intn(2), some(1+r.Intn(500), r.Intn(5))
	switch r.Intn(6) {
	case 0:
		data = strings.Repeat("\x00", len(data)) // where other bytes lay
	case 1:
		data = data[:min(len(data), 20)]
	}
	switch r.Intn(20) {
	case 0, 1, 2:
		return api.Op{Kind: api.OpOpen, Path: anyName(r), Flags: api.FlagCreate | r.Intn(2)*api.FlagTruncate}
	case 3:
		return api.Op{Kind: api.OpClose, Handle: h}
	case 4, 5, 6, 7, 8:
		return api.Op{Kind: api.OpWrite, Handle: h, Offset: r.Intn(900), Data: data}
	case 9:
		return api.Op{Kind: api.OpTruncate, Handle: h, N: r.Intn(900)}
	case 10:
		return api.Op{Kind: api.OpMkdir, Path: anyName(r)}
	case 11:
		return api.Op{Kind: api.OpRmdir, Path: anyName(r)}
	case 12:
		return api.Op{Kind: api.OpLink, Path: anyName(r), Other: anyName(r)}
	case 13, 14:
		return api.Op{Kind: api.OpUnlink, Path: anyName(r)}
	case 15:
		return api.Op{Kind: api.OpRename, Path: anyName(r), Other: anyName(r)}
	case 16, 17:
		return api.Op{Kind: api.OpClean}
	}
	return api.Op{Kind: api.OpSync + r.Intn(6)}
}

// anyShape is a small volume's.
func anyShape(r *rand.Rand) api.Shape {
	s := api.Shape{Sector: 512 << r.Intn(2), Sectors: []int{16, 24, 40, 64, 100, 200}[r.Intn(6)], Pack: 2 + r.Intn(4), Bits: []int{0, 2, 256}[r.Intn(3)], Dedup: r.Intn(3) > 0}
	s.Journal = 2 + r.Intn(s.Sectors/4-1)
	normal := 16 << r.Intn(4)
	s.Cut = api.Cut{Min: 1 + r.Intn(normal), Normal: normal, Max: min(normal*(1+r.Intn(8)), s.Pack*s.Sector-40), Seed: r.Uint64()}
	return s
}

// mustBeClean holds that what is on the platter of a disk is clean.
func mustBeClean(t *testing.T, d *disk.Disk, when string) api.Verdict {
	t.Helper()
	v := fsck.Check(d.Size(), d.Image())
	if !v.Clean {
		t.Fatalf("%s: %+v", when, v)
	}
	return v
}

// crashed is a copy of a disk behind a crash that keeps some of the pending writes.
func crashed(t *testing.T, r *rand.Rand, d *disk.Disk) *disk.Disk {
	t.Helper()
	d = d.Fork()
	var keep []int
	share := r.Intn(5)
	for i := range d.Pending() {
		if r.Intn(4) < share {
			keep = append(keep, i)
		}
	}
	if e := d.Crash(keep); e != api.OK {
		t.Fatal("Crash", e)
	}
	return d
}

// seen is what was met in the lives.
type seen struct {
	crashes, records, orphans, inMounts int
}

// mustMount is a mount behind a crash, the power of which goes too, at every write or flush; then one without: all are clean ahead and behind, and what is found is right.
func (m *seen) mustMount(t *testing.T, r *rand.Rand, d *disk.Disk, when string, deep int) *fs.Fs {
	t.Helper()
	v := mustBeClean(t, d, when)
	m.crashes++
	if v.Records > 0 {
		m.records++
	}
	if v.Orphans > 0 {
		m.orphans++
	}
	for stop := 0; deep > 0; stop++ {
		again := d.Fork()
		again.Stop(stop)
		if _, e := fs.Mount(again); e != api.OK {
			t.Fatal(when, "a mount whose power goes", stop, e)
		}
		if !again.Off() {
			break
		}
		m.inMounts++
		m.mustMount(t, r, crashed(t, r, again), fmt.Sprint(when, ", in a mount ", stop), deep-1)
	}
	d = d.Fork()
	f, e := fs.Mount(d)
	if e != api.OK {
		t.Fatal(when, "Mount", e)
	}
	mustBeClean(t, d, when+", behind the mount")
	if e := f.Right(); e != api.OK {
		t.Fatal(when, "Right", e)
	}
	if _, e := f.Items(); e != api.OK {
		t.Fatal(when, "Items", e)
	}
	return f
}

// live does operations till the power is gone, and what is left of them then: nothing of that is told nor lasts.
func live(t *testing.T, f *fs.Fs, l []api.Op, often bool, when string) {
	t.Helper()
	d := f.Volume().Disk()
	for i, o := range l {
		f.Do(o)
		if often && !d.Off() {
			mustBeClean(t, d, fmt.Sprint(when, ", behind the call ", i))
		}
	}
}

// TestAlive: P28.4: the platter is clean behind every call, whether what was done lasts or not.
func TestAlive(t *testing.T) {
	for seed := range 40 {
		r := rand.New(rand.NewSource(int64(seed)))
		f, e := fs.Format(anyShape(r))
		if e != api.OK {
			t.Fatal("Format", e)
		}
		mustBeClean(t, f.Volume().Disk(), "behind Format")
		var l []api.Op
		for range 100 {
			l = append(l, anyOp(r))
		}
		live(t, f, l, true, fmt.Sprint("seed ", seed))
	}
}

// TestCrashes: P28.4, P28.5: the power goes in lives that come one behind the other, and in the mounts between: what is on the platter is clean, mounted, and right.
func TestCrashes(t *testing.T) {
	m := &seen{}
	for seed := range 120 {
		r := rand.New(rand.NewSource(int64(seed)))
		f, e := fs.Format(anyShape(r))
		if e != api.OK {
			t.Fatal("Format", e)
		}
		syncs := r.Intn(3) // of how many calls of those kinds one is done, so that more is found behind some crashes
		for life := range 4 {
			when := fmt.Sprint("seed ", seed, ", life ", life)
			var l []api.Op
			for range 40 {
				o := anyOp(r)
				if !slices.Contains([]int{api.OpSync, api.OpCheckpoint, api.OpRemount}, o.Kind) || r.Intn(1+4*syncs) == 0 {
					l = append(l, o)
				}
			}
			f.Volume().Disk().Stop(r.Intn(70))
			live(t, f, l, false, when)
			f = m.mustMount(t, r, crashed(t, r, f.Volume().Disk()), when, r.Intn(2))
		}
	}
	if m.crashes < 500 || m.records < 100 || m.orphans < 20 || m.inMounts < 200 {
		t.Errorf("met %+v", *m)
	}
}

// TestEveryMoment: P28.4: the power goes behind each write or flush of a life, and any of the pending writes are kept.
func TestEveryMoment(t *testing.T) {
	m := &seen{}
	for seed := range 5 {
		r := rand.New(rand.NewSource(int64(seed)))
		s := anyShape(r)
		var l []api.Op
		for range 60 {
			l = append(l, anyOp(r))
		}
		for stop := 0; ; stop++ {
			f, e := fs.Format(s)
			if e != api.OK {
				t.Fatal("Format", e)
			}
			d := f.Volume().Disk()
			d.Stop(stop)
			live(t, f, l, false, "")
			if !d.Off() {
				break
			}
			for range 2 {
				m.mustMount(t, r, crashed(t, r, d), fmt.Sprint("seed ", seed, ", stop ", stop), 0)
			}
		}
	}
	if m.crashes < 250 || m.records < 50 {
		t.Errorf("met %+v", *m)
	}
}
