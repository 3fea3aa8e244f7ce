package fs_test

import (
	"slices"
	"testing"

	"dedup/api"
	"dedup/fs"
	"dedup/inode"
	"dedup/model"
)

// wantFiles holds which inodes there are, which of them are orphans, and how many chunks.
func wantFiles(t *testing.T, f *fs.Fs, numbers, orphans []int, count int) {
	t.Helper()
	u := f.Volume().Book().Tree()
	var l []int
	for x := range inode.All(u) {
		l = append(l, x.Number)
	}
	marks, e := inode.Orphans(u)
	if e != api.OK || !slices.Equal(l, numbers) || !slices.Equal(marks, orphans) {
		t.Fatal("inodes", l, "orphans", marks, e, "want", numbers, orphans)
	}
	if chunks(f) != count {
		t.Fatal("chunks", chunks(f), "want", count)
	}
	if e := f.Right(); e != api.OK {
		t.Fatal("Right", e)
	}
}

// twoFiles is a file system with the files /f (2) and /g (3), of 8 and of 7 bytes: a chunk each. /f is open twice.
func twoFiles(t *testing.T) *fs.Fs {
	f := format(t, someShape(64))
	done(t, f, open("/f", 1), open("/f", 0), open("/g", 1), write(0, 0, "8 bytes."), write(2, 0, "7 bytes"), closing(2))
	wantFiles(t, f, []int{1, 2, 3}, nil, 2)
	return f
}

// TestGone: P27.1: a file without links goes at once, with its content, if no descriptor is open on it; also one that a rename took the place of.
func TestGone(t *testing.T) {
	f := twoFiles(t)
	done(t, f, unlink("/g"))
	wantFiles(t, f, []int{1, 2}, nil, 1)
	f = twoFiles(t)
	done(t, f, rename("/f", "/g"))
	wantFiles(t, f, []int{1, 2}, nil, 1)
	f = twoFiles(t)
	done(t, f, link("/g", "/h"), unlink("/g"))
	wantFiles(t, f, []int{1, 2, 3}, nil, 2)
	done(t, f, unlink("/h"))
	wantFiles(t, f, []int{1, 2}, nil, 1)
}

// TestOrphan: P27.1: one that is open stays as an orphan till its last descriptor is closed.
func TestOrphan(t *testing.T) {
	takeAway := map[string][]api.Op{
		"unlink": {unlink("/f")},
		"rename": {rename("/g", "/f"), open("/g", 1), write(2, 0, "7 bytes"), closing(2)},
	}
	for what, l := range takeAway {
		f := twoFiles(t)
		done(t, f, l...)
		all := []int{1, 2, 3}
		if what == "rename" {
			all = append(all, 4)
		}
		wantFiles(t, f, all, []int{2}, 2)
		done(t, f, write(1, 8, "more, in another chunk or in several of them"))
		more := chunks(f)
		wantResult(t, f, read(0, 0, 12), api.Result{Data: "8 bytes.more"})
		done(t, f, closing(0))
		wantFiles(t, f, all, []int{2}, more)
		done(t, f, closing(1))
		wantFiles(t, f, slices.DeleteFunc(all, func(n int) bool { return n == 2 }), nil, 1)
	}
}

// TestOrphanMount: P27.1: an orphan whose descriptors went with the power, or with a remount, goes.
func TestOrphanMount(t *testing.T) {
	f := twoFiles(t)
	done(t, f, unlink("/f"), of(api.OpSync))
	d := f.Volume().Disk().Fork()
	d.Crash(nil)
	wantFiles(t, mount(t, d), []int{1, 3}, nil, 1)
	wantFiles(t, f, []int{1, 2, 3}, []int{2}, 2)
	done(t, f, of(api.OpRemount))
	wantFiles(t, f, []int{1, 3}, nil, 1)
	for h := range 3 {
		wantErr(t, f, read(h, 0, 1), api.EBadF)
	}
}

// TestCloseRefused: P27.1: where there is no room to let an orphan go Close tells OK, and it stays one till the next mount.
func TestCloseRefused(t *testing.T) {
	met := false
	for n := range 20 { // how many sectors are kept from it
		f, w := format(t, someShape(64)), model.New()
		for i := range 30 {
			for _, o := range []api.Op{mkdir("/d" + string(rune('a'+i))), open("/f", 1)} {
				done(t, f, o)
				w.Do(o)
			}
		}
		for _, o := range []api.Op{write(0, 0, some(600, 1)), unlink("/f"), of(api.OpCheckpoint)} {
			done(t, f, o)
			w.Do(o)
		}
		for h := range 29 {
			done(t, f, closing(h))
			w.Do(closing(h))
		}
		sp := f.Volume().Book().Space()
		if e := sp.Reserve(sp.Left() - n); e != api.OK {
			t.Fatal("Reserve", e)
		}
		wantErr(t, f, closing(29), api.OK)
		w.Do(closing(29))
		wantErr(t, f, read(29, 0, 1), api.EBadF)
		wantWorld(t, f, w)
		marks, _ := inode.Orphans(f.Volume().Book().Tree())
		if len(marks) == 1 {
			met = true
			done(t, f, of(api.OpRemount))
			marks, _ = inode.Orphans(f.Volume().Book().Tree())
		}
		if len(marks) != 0 || chunks(f) != 0 {
			t.Error(n, "orphans", marks, "chunks", chunks(f))
		}
	}
	if !met {
		t.Error("none was refused")
	}
}
