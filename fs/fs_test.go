package fs_test

import (
	"math"
	"slices"
	"strings"
	"testing"

	"dedup/api"
	"dedup/chunk"
	"dedup/disk"
	"dedup/fs"
	"dedup/model"
	"dedup/vol"
)

// someShape is one of so many sectors.
func someShape(sectors int) api.Shape {
	return api.Shape{Sector: 512, Sectors: sectors, Journal: 4, Pack: 2, Cut: api.Cut{Min: 8, Normal: 16, Max: 64}, Bits: 256, Dedup: true}
}

// format is a new file system.
func format(t *testing.T, s api.Shape) *fs.Fs {
	t.Helper()
	f, e := fs.Format(s)
	if e != api.OK {
		t.Fatal("Format", s, e)
	}
	return f
}

// mount is a file system as it lies on a disk.
func mount(t *testing.T, d *disk.Disk) *fs.Fs {
	t.Helper()
	f, e := fs.Mount(d)
	if e != api.OK {
		t.Fatal("Mount", e)
	}
	return f
}

// Operations, in short.
func open(p string, flags int) api.Op { return api.Op{Kind: api.OpOpen, Path: p, Flags: flags} }
func closing(h int) api.Op            { return api.Op{Kind: api.OpClose, Handle: h} }
func read(h, at, n int) api.Op        { return api.Op{Kind: api.OpRead, Handle: h, Offset: at, N: n} }
func truncate(h, n int) api.Op        { return api.Op{Kind: api.OpTruncate, Handle: h, N: n} }
func stat(p string) api.Op            { return api.Op{Kind: api.OpStat, Path: p} }
func list(p string) api.Op            { return api.Op{Kind: api.OpList, Path: p} }
func mkdir(p string) api.Op           { return api.Op{Kind: api.OpMkdir, Path: p} }
func rmdir(p string) api.Op           { return api.Op{Kind: api.OpRmdir, Path: p} }
func unlink(p string) api.Op          { return api.Op{Kind: api.OpUnlink, Path: p} }
func link(p, other string) api.Op     { return api.Op{Kind: api.OpLink, Path: p, Other: other} }
func rename(p, other string) api.Op   { return api.Op{Kind: api.OpRename, Path: p, Other: other} }
func fsync(h int) api.Op              { return api.Op{Kind: api.OpFsync, Handle: h} }
func of(kind int) api.Op              { return api.Op{Kind: kind} }
func write(h, at int, s string) api.Op {
	return api.Op{Kind: api.OpWrite, Handle: h, Offset: at, Data: s}
}

// short is an operation with little of its data.
func short(o api.Op) api.Op {
	o.Path, o.Other, o.Data = o.Path[:min(len(o.Path), 40)], o.Other[:min(len(o.Other), 40)], o.Data[:min(len(o.Data), 20)]
	return o
}

// wantResult does an operation and holds what is told.
func wantResult(t *testing.T, f *fs.Fs, o api.Op, want api.Result) {
	t.Helper()
	got := f.Do(o)
	if !model.Same(got, want) {
		got.Data, want.Data = got.Data[:min(len(got.Data), 40)], want.Data[:min(len(want.Data), 40)]
		t.Fatalf("%+v: %+v, want %+v", short(o), got, want)
	}
}

// wantErr does an operation and holds why it is refused, or that it tells nothing else.
func wantErr(t *testing.T, f *fs.Fs, o api.Op, want api.Errno) {
	t.Helper()
	wantResult(t, f, o, api.Result{Err: want})
}

// done does operations that are not refused.
func done(t *testing.T, f *fs.Fs, l ...api.Op) {
	t.Helper()
	for _, o := range l {
		if r := f.Do(o); r.Err != api.OK {
			t.Fatalf("%+v: %v", short(o), r.Err)
		}
	}
}

// items is all that is there.
func items(t *testing.T, f *fs.Fs) []api.Item {
	t.Helper()
	l, e := f.Items()
	if e != api.OK {
		t.Fatal("Items", e)
	}
	return l
}

// wantWorld holds that a file system has what a world has, and is right.
func wantWorld(t *testing.T, f *fs.Fs, w *model.World) {
	t.Helper()
	if got, want := items(t, f), w.Items(); !slices.Equal(got, want) {
		t.Fatalf("Items %v, want %v", paths(got), paths(want))
	}
	if e := f.Right(); e != api.OK {
		t.Fatal("Right", e)
	}
}

// paths is the items without their data.
func paths(l []api.Item) []api.Item {
	l = slices.Clone(l)
	for i := range l {
		l[i].Data = ""
	}
	return l
}

// containers is all of them.
func containers(t *testing.T, b *chunk.Book) []api.Container {
	t.Helper()
	l, e := b.Containers()
	if e != api.OK {
		t.Fatal("Containers", e)
	}
	return l
}

// chunks is how many there are.
func chunks(f *fs.Fs) int {
	return len(slices.Collect(f.Volume().Book().Chunks()))
}

// some is so many bytes without a rule that cutting would find.
func some(n, seed int) string {
	b := make([]byte, n)
	x := uint64(seed)*2654435761 + 1
	for i := range b {
		x = x*6364136223846793005 + 1442695040888963407
		b[i] = byte(x >> 56)
	}
	return string(b)
}

// TestFormat: P27.1: a new one has a root alone, on a volume as vol.Format lays it; shapes that may not be.
func TestFormat(t *testing.T) {
	s := someShape(64)
	f := format(t, s)
	wantWorld(t, f, model.New())
	v, _ := vol.Format(s)
	if f.Volume().Super() != v.Super() || !slices.Equal(f.Volume().Disk().Image(), v.Disk().Image()) {
		t.Error("another volume", f.Volume().Super())
	}
	for h := -1; h <= api.MaxHandles; h++ {
		wantErr(t, f, closing(h), api.EBadF)
	}
	for _, spoil := range []func(s *api.Shape){
		func(s *api.Shape) { s.Sectors = 15 }, func(s *api.Shape) { s.Journal = 1 }, func(s *api.Shape) { s.Bits = 257 }, func(s *api.Shape) { *s = api.Shape{} },
	} {
		other := s
		spoil(&other)
		if f, e := fs.Format(other); f != nil || e != api.ErrShape {
			t.Error(other, e)
		}
	}
	done(t, format(t, s), mkdir("/a"))
	wantWorld(t, f, model.New()) // another one's
}

// TestMount: P27.1: what lasts is found, no descriptor is open; disks without a volume.
func TestMount(t *testing.T) {
	f := format(t, someShape(64))
	done(t, f, open("/f", 1), write(0, 3, "abc"), fsync(0), mkdir("/d"))
	d := f.Volume().Disk()
	d.Crash(nil)
	g := mount(t, d)
	if l := items(t, g); len(l) != 2 || l[1].Path != "/f" || l[1].Data != "\x00\x00\x00abc" {
		t.Error("found", l)
	}
	wantErr(t, g, read(0, 0, 9), api.EBadF)
	if g.Volume().Disk() != d || g.Volume().Super().Generation != 2 {
		t.Error("another volume", g.Volume().Super())
	}
	if f, e := fs.Mount(nil); f != nil || e != api.ErrArg {
		t.Error("nil", e)
	}
	zeros, _ := disk.New(512, 64)
	if f, e := fs.Mount(zeros); f != nil || e != api.ErrVolume {
		t.Error("zeros", e)
	}
}

// TestNone: P27.2: of an Fs that no call gave.
func TestNone(t *testing.T) {
	for _, f := range []*fs.Fs{nil, {}} {
		for kind := -1; kind < 22; kind++ {
			wantErr(t, f, of(kind), api.EBadF)
		}
		if l, e := f.Items(); l != nil || e != api.ErrClosed {
			t.Error("Items", l, e)
		}
		if n, e := f.Clean(5); n != 0 || e != api.ErrClosed {
			t.Error("Clean", n, e)
		}
		if f.Volume() != nil || f.Right() != api.ErrClosed {
			t.Error("Volume, Right", f.Right())
		}
	}
}

// TestExample: P27.1, P27.3: the model's example, told by the file system.
func TestExample(t *testing.T) {
	f := format(t, someShape(64))
	wantResult(t, f, open("/f", api.FlagCreate), api.Result{Handle: 0})
	wantResult(t, f, write(0, 5, "ab"), api.Result{N: 2})
	wantResult(t, f, read(0, 0, 9), api.Result{Data: "\x00\x00\x00\x00\x00ab"})
	wantErr(t, f, unlink("/f"), api.OK)
	wantResult(t, f, read(0, 0, 9), api.Result{Data: "\x00\x00\x00\x00\x00ab"})
	wantErr(t, f, closing(0), api.OK)
	wantErr(t, f, open("/f", 0), api.ENoEnt)
	wantResult(t, f, open("/g", api.FlagCreate), api.Result{Handle: 0})
	wantResult(t, f, stat("/g"), api.Result{Stat: api.Stat{Number: 3, Links: 1}})
}

// everyEdge is calls with ordinary arguments, those at the limits, and wrong ones, in an order in which they meet what others left.
func everyEdge() []api.Op {
	l := []api.Op{
		open("/f", -1), open("/f", 8), open("/f", 0), open("/f", 2), open("/f", 4), open("/f", 1), open("/f", 3), open("/f", 2), open("", 1), open("f", 1),
		write(0, 0, some(300, 1)), write(1, 100, some(50, 2)), write(0, -1, "a"), write(0, 0, ""), write(0, math.MaxInt, ""), write(0, math.MaxInt, "a"), write(5, 0, "a"), write(-1, -1, "a"),
		write(0, api.MaxFile, "a"), write(0, api.MaxFile-1, "a"), write(0, api.MaxFile-1, "ab"), write(0, 0, some(api.MaxIO+1, 3)),
		read(0, 0, 400), read(0, 290, 20), read(0, 0, 0), read(0, api.MaxFile, 5), read(0, api.MaxFile-2, 5), read(0, math.MaxInt, 5), read(0, -1, 5), read(0, 0, -1), read(0, 0, api.MaxIO), read(0, 0, api.MaxIO+1), read(9, -1, 0),
		truncate(0, 200), truncate(0, 0), truncate(0, 70), truncate(0, -1), truncate(0, api.MaxFile), truncate(0, api.MaxFile+1), truncate(64, -1), truncate(0, 100),
		mkdir("/d"), mkdir("/d"), mkdir("/d/e"), mkdir("/x/y"), mkdir("/f/y"), mkdir("/"), mkdir("/d/."), mkdir("/" + strings.Repeat("n", 32)), mkdir("/" + strings.Repeat("n", 33)),
		stat("/"), stat("/d"), stat("/f"), stat("/f/"), stat("/f/."), stat("/d/e/../.."), stat("/x"), stat(""), stat(strings.Repeat("/d", 257)),
		list("/"), list("/d"), list("/f"), list("/x"), list("/d/e/.."),
		link("/f", "/g"), link("/f", "/g"), link("/d", "/h"), link("/x", "/h"), link("/f", "/d/e/f"), link("/f", "/"),
		rename("/f", "/f"), rename("/f", "/g"), rename("/d", "/d/e"), rename("/d", "/d/e/x"), rename("/d", "/g"), rename("/f", "/d"), rename("/d/e", "/h"), rename("/h", "/d"), rename("/", "/x"), rename("/f", "/."), rename("/x", "/y"),
		open("/d", 0), open("/d", 1), open("/d", 3), open("/d/", 4), rmdir("/d"), rmdir("/f"), rmdir("/"), rmdir("/."), rmdir("/.."), rmdir("/h"), rmdir("/h"),
		unlink("/d"), unlink("/x"), unlink("/"), unlink("/g"), unlink("/f"), read(0, 0, 50), write(1, 5, "still"), read(0, 0, 50), fsync(0), fsync(1), fsync(2), fsync(-5),
		closing(0), read(1, 0, 20), closing(0), closing(1), closing(1), of(0), of(-7), of(20), of(math.MaxInt), of(math.MinInt),
	}
	for range api.MaxHandles + 2 {
		l = append(l, open("/many", 1))
	}
	l = append(l, open("/x/y", 0), open("/x", 9), closing(63), closing(7), open("/many", 4), open("/many", 5), unlink("/many"), write(7, 0, "again"), open("/many", 1))
	for _, kind := range []int{api.OpSync, api.OpCheckpoint, api.OpClean, api.OpCompact, api.OpEvict, api.OpRemount} {
		l = append(l, api.Op{Kind: kind, Handle: -1, N: -1, Flags: 99, Path: "no path"}) // of which they have none
	}
	return append(l, read(7, 0, 9), list("/"), open("/d", 0))
}

// TestEdges: P27.1, P27.3: each kind of call, with what is ordinary, at the edges, and wrong, is told what the model tells.
func TestEdges(t *testing.T) {
	f, w := format(t, someShape(512)), model.New()
	for _, o := range everyEdge() {
		wantResult(t, f, o, w.Do(o))
	}
	wantWorld(t, f, w)
}

// TestFlags: P27.1: an open that creates and truncates is one change; what it does not ask for stays.
func TestFlags(t *testing.T) {
	for flags := range 8 {
		f, w := format(t, someShape(64)), model.New()
		for _, o := range []api.Op{open("/f", 1), write(0, 0, some(100, 1)), open("/f", flags), open("/g", flags), read(1, 0, 200), read(0, 0, 200), mkdir("/d"), open("/d", flags)} {
			wantResult(t, f, o, w.Do(o))
			wantWorld(t, f, w)
		}
	}
}

// TestMany: P27.3: the most links, and the most directories, that may be.
func TestMany(t *testing.T) {
	f, w := format(t, someShape(1024)), model.New()
	do := func(o api.Op) {
		t.Helper()
		wantResult(t, f, o, w.Do(o))
	}
	do(open("/f", 1))
	do(mkdir("/d"))
	do(mkdir("/g"))
	for i := range api.MaxLinks + 1 {
		name := string([]byte{'a' + byte(i/100), 'a' + byte(i/10%10), 'a' + byte(i%10)})
		do(link("/f", "/d/"+name))
		do(mkdir("/g/" + name))
	}
	do(stat("/f"))
	do(stat("/g"))
	do(mkdir("/e"))
	do(rename("/e", "/g/e"))
	do(rename("/e", "/g/aaa"))
	do(unlink("/f"))
	do(link("/d/aaa", "/f"))
	wantWorld(t, f, w)
}
