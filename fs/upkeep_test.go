package fs_test

import (
	"math"
	"slices"
	"testing"

	"dedup/api"
	"dedup/clean"
	"dedup/fs"
	"dedup/inode"
	"dedup/model"
)

// behindCrash is what a mount finds behind a crash that keeps nothing.
func behindCrash(t *testing.T, f *fs.Fs) []api.Item {
	t.Helper()
	d := f.Volume().Disk().Fork()
	d.Crash(nil)
	g := mount(t, d)
	if e := g.Right(); e != api.OK {
		t.Fatal("Right", e)
	}
	return items(t, g)
}

// TestLasts: P27.1: behind a sync, an fsync of any descriptor, a checkpoint, a remount all lasts; without one of them nothing that fits into the journal.
func TestLasts(t *testing.T) {
	for _, o := range []api.Op{of(api.OpSync), fsync(1), of(api.OpCheckpoint), of(api.OpRemount)} {
		f := format(t, someShape(64))
		done(t, f, open("/f", 1), open("/g", 1), write(0, 0, "abc"), mkdir("/d"))
		if l := behindCrash(t, f); len(l) != 1 {
			t.Error("nothing was synced", paths(l))
		}
		wantErr(t, f, fsync(2), api.EBadF)
		if l := behindCrash(t, f); len(l) != 1 {
			t.Error("a refused one syncs nothing", paths(l))
		}
		done(t, f, o)
		if l := behindCrash(t, f); !slices.Equal(l, items(t, f)) {
			t.Errorf("%+v: %v", o, paths(l))
		}
	}
}

// TestCheckpoint: P27.1: it is vol.Checkpoint: a generation more, if there is something to do.
func TestCheckpoint(t *testing.T) {
	f := format(t, someShape(64))
	done(t, f, of(api.OpCheckpoint), mkdir("/d"), of(api.OpCheckpoint), of(api.OpCheckpoint))
	if g := f.Volume().Super().Generation; g != 2 {
		t.Error("generation", g)
	}
	if f.Volume().Book().Tree().Dirty() != 0 {
		t.Error("dirty", f.Volume().Book().Tree().Dirty())
	}
}

// TestCompactEvict: P27.1: a step of the index, and all sectors out of memory: what is told stays.
func TestCompactEvict(t *testing.T) {
	f, w := format(t, someShape(2048)), model.New()
	for _, o := range []api.Op{open("/f", 1), write(0, 0, some(25000, 1)), of(api.OpSync)} {
		done(t, f, o)
		w.Do(o)
	}
	if !f.Volume().Book().Fork().Compact() {
		t.Fatal("nothing to compact")
	}
	steps := 0
	for f.Volume().Book().Fork().Compact() {
		done(t, f, of(api.OpCompact))
		steps++
	}
	if steps == 0 || steps > 100 {
		t.Error("steps", steps)
	}
	reads, _, _ := f.Volume().Disk().Counts()
	done(t, f, of(api.OpEvict))
	if f.Volume().Drop() != 0 {
		t.Error("something was in memory still")
	}
	wantWorld(t, f, w)
	if again, _, _ := f.Volume().Disk().Counts(); again <= reads {
		t.Error("nothing was read again")
	}
}

// TestRemount: P27.1: another volume on the same disk, no descriptor open, all that was done there.
func TestRemount(t *testing.T) {
	f, w := format(t, someShape(64)), model.New()
	for _, o := range []api.Op{open("/f", 1), open("/g", 1), write(0, 0, some(200, 1)), link("/f", "/h"), unlink("/g"), of(api.OpRemount)} {
		v := f.Volume()
		wantResult(t, f, o, w.Do(o))
		if o.Kind == api.OpRemount && (f.Volume() == v || f.Volume().Disk() != v.Disk()) {
			t.Error("the same volume, or another disk")
		}
	}
	wantWorld(t, f, w)
	for h := range 2 {
		wantErr(t, f, read(h, 0, 1), api.EBadF)
	}
	wantResult(t, f, open("/h", 0), api.Result{})
}

// TestRemountRefused: P27.1: a remount that is refused tells why; the volume and its descriptors stay.
func TestRemountRefused(t *testing.T) {
	f := format(t, someShape(64))
	done(t, f, open("/f", 1), write(0, 0, "abc"), of(api.OpSync))
	d, v := f.Volume().Disk(), f.Volume()
	d.Write(1, make([]byte, 512))
	d.Flush()
	wantErr(t, f, of(api.OpRemount), api.ErrVolume)
	if f.Volume() != v {
		t.Error("another volume")
	}
	wantResult(t, f, read(0, 0, 9), api.Result{Data: "abc"})
}

// holed is a file system with several closed containers, of each of which some chunks are dead; and its world.
func holed(t *testing.T) (*fs.Fs, *model.World) {
	t.Helper()
	s := someShape(160)
	s.Cut = api.Cut{Min: 16, Normal: 64, Max: 128}
	f, w := format(t, s), model.New()
	l := []api.Op{open("/f", 1), write(0, 0, some(6000, 1)), of(api.OpSync)}
	for at := 0; at < 6000; at += 400 {
		l = append(l, write(0, at, some(150, at+2)))
	}
	for _, o := range append(l, of(api.OpSync)) {
		done(t, f, o)
		w.Do(o)
	}
	return f, w
}

// TestClean: P27.1, P27.2, P27.6: OpClean is a step of the cleaner; Clean does several, and tells how many.
func TestClean(t *testing.T) {
	f, w := holed(t)
	victim, is := clean.Victim(f.Volume().Book())
	if !is {
		t.Fatal("nothing to clean")
	}
	wantErr(t, f, of(api.OpClean), api.OK)
	for _, k := range containers(t, f.Volume().Book()) {
		if k.Id == victim {
			t.Error("the victim is there still", k)
		}
	}
	wantWorld(t, f, w)
	for _, most := range []int{0, -1, math.MinInt} {
		if n, e := f.Clean(most); n != 0 || e != api.OK {
			t.Error("Clean", most, n, e)
		}
	}
	if n, e := f.Clean(2); n != 2 || e != api.OK {
		t.Error("Clean", n, e)
	}
	wantWorld(t, f, w)
	most := len(containers(t, f.Volume().Book())) + 1
	n, e := f.Clean(most)
	if e != api.OK || n < 1 || n > most || clean.Dead(f.Volume().Book()) != 0 {
		t.Error("Clean", n, e, "of", most, "dead", clean.Dead(f.Volume().Book()))
	}
	for _, k := range containers(t, f.Volume().Book()) {
		if !k.Open && k.Slots != k.Live {
			t.Error("dead slots", k)
		}
	}
	wantWorld(t, f, w)
	if n, e := f.Clean(math.MaxInt); n != 0 || e != api.OK {
		t.Error("Clean behind the last one", n, e)
	}
	wantErr(t, f, of(api.OpClean), api.OK)
}

// TestCleanRefused: P27.1, P27.2: a step that is refused changes nothing: OpClean tells OK, Clean why, and how many were done ahead.
func TestCleanRefused(t *testing.T) {
	f, w := holed(t)
	keep(t, f, 1)
	u := f.Volume().Book().Tree()
	wantErr(t, f, of(api.OpClean), api.OK)
	if n, e := f.Clean(5); n != 0 || e != api.ErrFull {
		t.Error("Clean", n, e)
	}
	if f.Volume().Book().Tree() != u {
		t.Error("something has changed")
	}
	wantWorld(t, f, w)
	some := false
	for left := range 40 {
		f, w := holed(t)
		all, _ := holed(t)
		most, _ := all.Clean(100)
		keep(t, f, left)
		n, e := f.Clean(100)
		some = some || n > 0 && e == api.ErrFull
		if e != api.ErrFull && (e != api.OK || n != most) || e == api.ErrFull && n >= most {
			t.Error(left, "Clean", n, e, "of", most)
		}
		wantWorld(t, f, w)
	}
	if !some {
		t.Error("none was refused behind others")
	}
	f, _ = holed(t)
	victim, _ := clean.Victim(f.Volume().Book())
	for x := range f.Volume().Book().Chunks() {
		if x.Container == victim {
			set(t, f, put(key('c', x.Id), string(make([]byte, 48))))
			break
		}
	}
	if n, e := f.Clean(5); n != 0 || e != api.OK { // of containers that can't be told there is no victim
		t.Error("spoilt", n, e)
	}
}

// TestCleanBehindMount: P27.6: a container that was open without a live slot when the power went is cleaned too.
func TestCleanBehindMount(t *testing.T) {
	f := format(t, someShape(64))
	done(t, f, open("/f", 1), write(0, 0, "abc"), of(api.OpSync), truncate(0, 0), of(api.OpRemount))
	if l := containers(t, f.Volume().Book()); len(l) != 1 || l[0].Live != 0 || l[0].Open {
		t.Fatal("containers", l)
	}
	if n, e := f.Clean(2); n != 1 || e != api.OK || len(containers(t, f.Volume().Book())) != 0 {
		t.Error("Clean", n, e)
	}
	if x, _ := inode.Get(f.Volume().Book().Tree(), 2); x.Size != 0 || f.Right() != api.OK {
		t.Error("the file", x, f.Right())
	}
}

// TestFullAndBack: P27.3: a volume of 16 sectors soon tells ENoSpc; what was there is there; an unlink makes room behind the next checkpoint.
func TestFullAndBack(t *testing.T) {
	f, w := format(t, api.Shape{Sector: 512, Sectors: 16, Journal: 2, Pack: 2, Cut: api.Cut{Min: 8, Normal: 16, Max: 64}, Bits: 256, Dedup: true}), model.New()
	full := 0
	for i := 0; full == 0; i++ {
		if i > 20 {
			t.Fatal("never full")
		}
		p := "/" + string(rune('a'+i))
		for _, o := range []api.Op{open(p, 1), write(0, 0, some(600, i)), closing(0)} {
			next := w.Fork()
			want := next.Do(o)
			if got := f.Do(o); got.Err == api.ENoSpc {
				full++
				continue
			} else if !model.Same(got, want) {
				t.Fatal(short(o), got, want)
			}
			w = next
		}
		wantWorld(t, f, w)
	}
	for _, o := range []api.Op{of(api.OpCheckpoint), unlink("/a"), of(api.OpCheckpoint), open("/b", 0), write(0, 0, "there is room")} {
		wantResult(t, f, o, w.Do(o))
	}
	wantWorld(t, f, w)
}
