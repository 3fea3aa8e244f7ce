package model_test

import (
	"math"
	"slices"
	"strconv"
	"strings"
	"testing"

	"dedup/api"
	"dedup/model"
)

// wantResult does an operation and holds what is told.
func wantResult(t *testing.T, w *model.World, o api.Op, want api.Result) {
	t.Helper()
	if got := w.Do(o); !sameResult(got, want) {
		t.Fatalf("%+v: %+v, want %+v", short(o), tell(got), tell(want))
	}
}

// wantErr does an operation and holds why it is refused, or that it tells nothing else.
func wantErr(t *testing.T, w *model.World, o api.Op, want api.Errno) {
	t.Helper()
	wantResult(t, w, o, api.Result{Err: want})
}

// wantItems holds what is there.
func wantItems(t *testing.T, w *model.World, want ...api.Item) {
	t.Helper()
	if got := w.Items(); !slices.Equal(got, want) {
		t.Fatalf("Items %v, want %v", got, want)
	}
	wantTree(t, w.Items())
}

// item is a directory.
func item(p string, number, links int) api.Item {
	return api.Item{Path: p, Stat: api.Stat{Number: number, Dir: true, Links: links}}
}

// fileItem is a file.
func fileItem(p string, number, links int, data string) api.Item {
	return api.Item{Path: p, Stat: api.Stat{Number: number, Size: len(data), Links: links}, Data: data}
}

// Operations, in short.
func open(p string, flags int) api.Op { return api.Op{Kind: api.OpOpen, Path: p, Flags: flags} }
func closing(h int) api.Op            { return api.Op{Kind: api.OpClose, Handle: h} }
func read(h, at, n int) api.Op        { return api.Op{Kind: api.OpRead, Handle: h, Offset: at, N: n} }
func truncate(h, n int) api.Op        { return api.Op{Kind: api.OpTruncate, Handle: h, N: n} }
func stat(p string) api.Op            { return api.Op{Kind: api.OpStat, Path: p} }
func list(p string) api.Op            { return api.Op{Kind: api.OpList, Path: p} }
func mkdir(p string) api.Op           { return api.Op{Kind: api.OpMkdir, Path: p} }
func rmdir(p string) api.Op           { return api.Op{Kind: api.OpRmdir, Path: p} }
func unlink(p string) api.Op          { return api.Op{Kind: api.OpUnlink, Path: p} }
func link(p, other string) api.Op     { return api.Op{Kind: api.OpLink, Path: p, Other: other} }
func rename(p, other string) api.Op   { return api.Op{Kind: api.OpRename, Path: p, Other: other} }
func write(h, at int, s string) api.Op {
	return api.Op{Kind: api.OpWrite, Handle: h, Offset: at, Data: s}
}
func fsync(h int) api.Op               { return api.Op{Kind: api.OpFsync, Handle: h} }
func of(kind int) api.Op               { return api.Op{Kind: kind} }
func handled(h int) api.Result         { return api.Result{Handle: h} }
func bytesOf(s string) api.Result      { return api.Result{Data: s} }
func written(n int) api.Result         { return api.Result{N: n} }
func named(names ...string) api.Result { return api.Result{Names: names} }
func dirStat(n, links int) api.Result {
	return api.Result{Stat: api.Stat{Number: n, Dir: true, Links: links}}
}
func fileStat(n, s, links int) api.Result {
	return api.Result{Stat: api.Stat{Number: n, Size: s, Links: links}}
}

// done does operations that are not refused.
func done(t *testing.T, w *model.World, l ...api.Op) {
	t.Helper()
	for _, o := range l {
		if r := w.Do(o); r.Err != api.OK {
			t.Fatal(short(o), r.Err)
		}
	}
}

// TestNew: P23.1: a root alone, no descriptor open, the next number 2.
func TestNew(t *testing.T) {
	w := model.New()
	wantItems(t, w, item("/", 1, 2))
	if w.Next() != 2 {
		t.Error("Next", w.Next())
	}
	for h := -1; h <= 64; h++ {
		wantErr(t, w, closing(h), api.EBadF)
	}
	wantResult(t, w, list("/"), named())
	wantResult(t, w, stat("/"), dirStat(1, 2))
	done(t, w, mkdir("/a"))
	wantItems(t, model.New(), item("/", 1, 2)) // another one's
}

// TestExample: P23.1, P23.7: the chapter's example.
func TestExample(t *testing.T) {
	w := model.New()
	wantResult(t, w, open("/f", api.FlagCreate), handled(0))
	wantResult(t, w, stat("/f"), fileStat(2, 0, 1))
	wantResult(t, w, write(0, 5, "ab"), written(2))
	wantResult(t, w, read(0, 0, 9), bytesOf("\x00\x00\x00\x00\x00ab"))
	wantErr(t, w, unlink("/f"), api.OK)
	wantResult(t, w, read(0, 0, 9), bytesOf("\x00\x00\x00\x00\x00ab"))
	wantErr(t, w, closing(0), api.OK)
	wantErr(t, w, open("/f", 0), api.ENoEnt)
	wantResult(t, w, open("/g", api.FlagCreate), handled(0))
	wantResult(t, w, stat("/g"), fileStat(3, 0, 1))
	if w.Next() != 4 {
		t.Error("Next", w.Next())
	}
}

// TestOpenFlags: P23.1: what each of the flags does, of a file that is there, of none, of a directory.
func TestOpenFlags(t *testing.T) {
	for flags := range 8 {
		w := model.New()
		done(t, w, open("/f", api.FlagCreate), write(0, 0, "abc"), mkdir("/d"))
		create, exclusive := flags&1 != 0, flags&1 != 0 && flags&2 != 0 // FlagExclusive alone is nothing
		there, left := handled(1), "abc"
		if flags&4 != 0 {
			left = ""
		}
		dir, none := api.EIsDir, api.ENoEnt
		if exclusive {
			there, left, dir = api.Result{Err: api.EExist}, "abc", api.EExist
		}
		for _, p := range []string{"/d", "/d/", "/d/.", "/d/..", "/", "/."} {
			wantErr(t, w, open(p, flags), dir)
		}
		wantResult(t, w, open("/f", flags), there)
		wantResult(t, w, read(0, 0, 9), bytesOf(left))
		wantErr(t, w, open("/x/y", flags), none)
		wantErr(t, w, open("/f/y", flags), api.ENotDir)
		if !create {
			wantErr(t, w, open("/g", flags), none)
			wantItems(t, w, item("/", 1, 3), item("/d", 3, 2), fileItem("/f", 2, 1, left))
			continue
		}
		if there.Err != api.OK {
			there = handled(0)
		}
		wantResult(t, w, open("/g", flags), handled(there.Handle+1))
		wantItems(t, w, item("/", 1, 3), item("/d", 3, 2), fileItem("/f", 2, 1, left), fileItem("/g", 4, 1, ""))
		wantResult(t, w, write(there.Handle+1, 0, "new"), written(3))
	}
}

// TestOpenOrder: P23.1: EInval of flags ahead of EMFile, that ahead of all that the path is refused for; and nothing is made or truncated.
func TestOpenOrder(t *testing.T) {
	w := model.New()
	for h := range api.MaxHandles {
		wantResult(t, w, open("/f", api.FlagCreate), handled(h))
	}
	done(t, w, write(0, 0, "abc"), mkdir("/d"))
	for _, p := range []string{"", "a", "/d", "/f", "/x", "/x/y", "/f/y", strings.Repeat("/", 513)} {
		for _, flags := range []int{-1, 8, 9, 15, math.MaxInt, math.MinInt, math.MinInt + 1} {
			wantErr(t, w, open(p, flags), api.EInval)
		}
		for flags := range 8 {
			wantErr(t, w, open(p, flags), api.EMFile)
		}
	}
	wantItems(t, w, item("/", 1, 3), item("/d", 3, 2), fileItem("/f", 2, 1, "abc"))
	if w.Next() != 4 {
		t.Error("Next", w.Next())
	}
	wantErr(t, w, closing(63), api.OK)
	for _, flags := range []int{-1, 8} {
		wantErr(t, w, open("/f", flags), api.EInval)
	}
	wantErr(t, w, open("", 0), api.ENoEnt)
	wantErr(t, w, open("a", 1), api.EInval)
	wantErr(t, w, open(strings.Repeat("/", 513), 0), api.ENameTooLong)
	wantResult(t, w, open("/f", 4), handled(63))
	wantErr(t, w, open("/f", 0), api.EMFile)
}

// TestDescriptors: P23.1: 64 of them, the least free one first; of one that is not open EBadF.
func TestDescriptors(t *testing.T) {
	w := model.New()
	done(t, w, open("/f", 1), write(0, 0, "f"), open("/g", 1), write(1, 0, "g"), closing(1))
	for h := 1; h < api.MaxHandles; h++ {
		wantResult(t, w, open("/f", 0), handled(h))
	}
	wantErr(t, w, open("/f", 0), api.EMFile)
	for _, h := range []int{40, 63, 7} {
		wantErr(t, w, closing(h), api.OK)
		wantErr(t, w, closing(h), api.EBadF)
	}
	for _, h := range []int{7, 40, 63} {
		wantResult(t, w, open("/g", 0), handled(h))
		wantResult(t, w, read(h, 0, 9), bytesOf("g"))
		wantResult(t, w, read(h-1, 0, 9), bytesOf("f"))
	}
	wantErr(t, w, open("/f", 0), api.EMFile)
	wantErr(t, w, closing(7), api.OK)
	for _, h := range []int{-1, 7, 64, 65, math.MaxInt, math.MinInt} { // ahead of all else that may be wrong
		wantErr(t, w, closing(h), api.EBadF)
		wantErr(t, w, fsync(h), api.EBadF)
		wantErr(t, w, read(h, 0, 9), api.EBadF)
		wantErr(t, w, read(h, -1, -1), api.EBadF)
		wantErr(t, w, write(h, 0, "a"), api.EBadF)
		wantErr(t, w, write(h, 0, ""), api.EBadF)
		wantErr(t, w, write(h, -1, strings.Repeat("a", 65537)), api.EBadF)
		wantErr(t, w, write(h, 1<<20, "a"), api.EBadF)
		wantErr(t, w, truncate(h, 0), api.EBadF)
		wantErr(t, w, truncate(h, -1), api.EBadF)
		wantErr(t, w, truncate(h, 1<<20+1), api.EBadF)
	}
	wantErr(t, w, fsync(8), api.OK)
}

// TestRead: P23.1: which bytes are told, and what is refused.
func TestRead(t *testing.T) {
	w := model.New()
	long := strings.Repeat("0123456789abcdef", 8192) // 2^17 bytes
	done(t, w, open("/f", 1), write(0, 0, long[:65536]), write(0, 65536, long[65536:]))
	for _, x := range []struct{ at, n, from, end int }{
		{0, 0, 0, 0}, {0, 1, 0, 1}, {3, 9, 3, 12}, {0, 65536, 0, 65536}, {65536, 65536, 65536, 131072}, {65537, 65536, 65537, 131072},
		{131071, 5, 131071, 131072}, {131072, 5, 0, 0}, {131073, 5, 0, 0}, {1 << 20, 5, 0, 0}, {math.MaxInt, 65536, 0, 0}, {math.MaxInt, 0, 0, 0},
	} {
		wantResult(t, w, read(0, x.at, x.n), bytesOf(long[x.from:x.end]))
	}
	for _, x := range [][2]int{{-1, 0}, {-1, 5}, {0, -1}, {0, 65537}, {math.MaxInt, 65537}, {math.MinInt, 5}, {5, math.MinInt}, {5, math.MaxInt}, {-1, -1}} {
		wantErr(t, w, read(0, x[0], x[1]), api.EInval)
	}
}

// TestWrite: P23.1: where bytes stand, 0 between, and what is refused, EInval ahead of EFBig.
func TestWrite(t *testing.T) {
	w := model.New()
	done(t, w, open("/f", 1))
	for _, x := range []struct {
		at   int
		data string
		want string
	}{
		{0, "", ""}, {7, "", ""}, {1 << 20, "", ""}, {1<<20 + 1, "", ""}, {math.MaxInt, "", ""},
		{0, "abc", "abc"}, {1, "X", "aXc"}, {2, "YZ", "aXYZ"}, {4, "!", "aXYZ!"}, {7, "ab", "aXYZ!\x00\x00ab"}, {0, "", "aXYZ!\x00\x00ab"}, {20, "", "aXYZ!\x00\x00ab"}, {3, "", "aXYZ!\x00\x00ab"}, {0, "0123456789", "0123456789"},
	} {
		wantResult(t, w, write(0, x.at, x.data), written(len(x.data)))
		wantItems(t, w, item("/", 1, 2), fileItem("/f", 2, 1, x.want))
	}
	long := strings.Repeat("a", 65537)
	for _, x := range []struct {
		at   int
		data string
		e    api.Errno
	}{
		{-1, "", api.EInval}, {-1, "a", api.EInval}, {math.MinInt, "a", api.EInval}, {0, long, api.EInval}, {1 << 20, long, api.EInval}, {math.MaxInt, long, api.EInval},
		{1 << 20, "a", api.EFBig}, {1<<20 - 1, "ab", api.EFBig}, {1<<20 - 65535, long[1:], api.EFBig}, {math.MaxInt, "a", api.EFBig}, {math.MaxInt - 1, "ab", api.EFBig}, {math.MaxInt, long[1:], api.EFBig},
	} {
		wantErr(t, w, write(0, x.at, x.data), x.e)
		wantItems(t, w, item("/", 1, 2), fileItem("/f", 2, 1, "0123456789"))
	}
	wantResult(t, w, write(0, 1<<20-65536, long[1:]), written(65536))
	wantResult(t, w, write(0, 1<<20-1, "Z"), written(1))
	wantItems(t, w, item("/", 1, 2), fileItem("/f", 2, 1, "0123456789"+strings.Repeat("\x00", 1<<20-65536-10)+long[2:]+"Z"))
	wantResult(t, w, write(0, 0, long[1:]), written(65536))
	wantResult(t, w, stat("/f"), fileStat(2, 1<<20, 1))
}

// TestTruncate: P23.1: the first bytes, and 0; what is refused.
func TestTruncate(t *testing.T) {
	w := model.New()
	done(t, w, open("/f", 1), write(0, 0, "abcdef"))
	for _, x := range []struct {
		n    int
		want string
	}{
		{6, "abcdef"}, {4, "abcd"}, {7, "abcd\x00\x00\x00"}, {5, "abcd\x00"}, {1, "a"}, {0, ""}, {3, "\x00\x00\x00"}, {1 << 20, strings.Repeat("\x00", 1<<20)}, {2, "\x00\x00"},
	} {
		wantErr(t, w, truncate(0, x.n), api.OK)
		wantItems(t, w, item("/", 1, 2), fileItem("/f", 2, 1, x.want))
	}
	for _, n := range []int{-1, math.MinInt} {
		wantErr(t, w, truncate(0, n), api.EInval)
	}
	for _, n := range []int{1<<20 + 1, math.MaxInt} {
		wantErr(t, w, truncate(0, n), api.EFBig)
	}
	wantItems(t, w, item("/", 1, 2), fileItem("/f", 2, 1, "\x00\x00"))
	done(t, w, truncate(0, 1<<20))
	wantErr(t, w, write(0, 1<<20, "a"), api.EFBig)
	done(t, w, open("/f", api.FlagTruncate))
	wantResult(t, w, read(0, 0, 9), bytesOf(""))
}

// TestList: P23.1: names rise, as bytes; of a file ENotDir.
func TestList(t *testing.T) {
	w := model.New()
	done(t, w, mkdir("/d"))
	wantResult(t, w, list("/d"), named())
	long := strings.Repeat("n", 32)
	for _, s := range []string{"b", "a", "\xff", "a!", "aa", "\x01", "Z", "...", long} {
		done(t, w, open("/d/"+s, 1), closing(0))
	}
	done(t, w, mkdir("/d/c"), mkdir("/d/c/e"))
	want := named("\x01", "...", "Z", "a", "a!", "aa", "b", "c", long, "\xff")
	for _, p := range []string{"/d", "/d/", "/d/c/..", "/./d/c/e/../../."} {
		wantResult(t, w, list(p), want)
	}
	wantResult(t, w, list("/d/c/e/../.."), want)
	wantResult(t, w, list("/.."), named("d"))
	wantErr(t, w, list("/d/a"), api.ENotDir)
	wantErr(t, w, list("/d/a/x"), api.ENotDir)
	wantErr(t, w, list("/d/x"), api.ENoEnt)
	wantErr(t, w, list(""), api.ENoEnt)
	wantErr(t, w, list("d"), api.EInval)
	wantErr(t, w, list("/"+strings.Repeat("n", 33)), api.ENameTooLong)
}

// TestStat: P23.1: what a path leads to: a file's Size is its bytes, a directory's 0.
func TestStat(t *testing.T) {
	w := model.New()
	done(t, w, mkdir("/d"), mkdir("/d/e"), open("/d/f", 1), write(0, 9, "a"), link("/d/f", "/g"))
	wantResult(t, w, stat("/"), dirStat(1, 3))
	wantResult(t, w, stat("/d"), dirStat(2, 3))
	wantResult(t, w, stat("/d/e/"), dirStat(3, 2))
	wantResult(t, w, stat("/d/e/../f"), fileStat(4, 10, 2))
	wantResult(t, w, stat("/g/"), fileStat(4, 10, 2))
	wantErr(t, w, stat("/g/."), api.ENotDir)
	wantErr(t, w, stat("/h"), api.ENoEnt)
}

// TestMaintenance: P23.1, P23.3: OK, and nothing changes.
func TestMaintenance(t *testing.T) {
	w := model.New()
	done(t, w, mkdir("/d"), open("/f", 1), write(0, 0, "abc"), unlink("/f"), open("/g", 1))
	was := w.Items()
	for _, kind := range []int{api.OpSync, api.OpCheckpoint, api.OpClean, api.OpCompact, api.OpEvict} {
		wantErr(t, w, of(kind), api.OK)
		wantErr(t, w, api.Op{Kind: kind, Path: "/d", Other: "x", Handle: -1, Offset: -1, N: -1, Flags: -1, Data: "a"}, api.OK)
	}
	wantItems(t, w, was...)
	wantResult(t, w, read(0, 0, 9), bytesOf("abc"))
	wantErr(t, w, fsync(1), api.OK)
	if w.Next() != 5 {
		t.Error("Next", w.Next())
	}
}

// TestRemount: P23.1: all descriptors are free, and files without links are gone.
func TestRemount(t *testing.T) {
	w := model.New()
	done(t, w, open("/f", 1), write(0, 0, "abc"), open("/g", 1), unlink("/f"), of(api.OpRemount))
	for h := range api.MaxHandles {
		wantErr(t, w, closing(h), api.EBadF)
	}
	wantItems(t, w, item("/", 1, 2), fileItem("/g", 3, 1, ""))
	wantResult(t, w, open("/f", 1), handled(0))
	wantResult(t, w, stat("/f"), fileStat(4, 0, 1))
}

// TestOtherKinds: P23.1: another kind is EInval.
func TestOtherKinds(t *testing.T) {
	w := model.New()
	for _, kind := range []int{0, -1, -19, 20, 21, 256, 1 << 32, 1<<32 + 1, math.MaxInt, math.MinInt} {
		wantErr(t, w, api.Op{Kind: kind, Path: "/a", Flags: 1}, api.EInval)
	}
	wantItems(t, w, item("/", 1, 2))
}

// TestRenames: P23.1, P23.4: what stands in the new place is gone; an open file that is gone from there goes on.
func TestRenames(t *testing.T) {
	w := model.New()
	done(t, w, mkdir("/a"), mkdir("/b"), mkdir("/a/c"), open("/a/f", 1), write(0, 0, "one"), open("/b/f", 1), write(1, 0, "two"))
	wantErr(t, w, rename("/a/f", "/b/f"), api.OK)
	wantItems(t, w, item("/", 1, 4), item("/a", 2, 3), item("/a/c", 4, 2), item("/b", 3, 2), fileItem("/b/f", 5, 1, "one"))
	wantResult(t, w, read(1, 0, 9), bytesOf("two"))
	wantResult(t, w, read(0, 0, 9), bytesOf("one"))
	wantErr(t, w, rename("/a", "/b"), api.ENotEmpty)
	wantErr(t, w, rename("/a", "/b/f"), api.ENotDir)
	wantErr(t, w, rename("/b/f", "/a"), api.EIsDir)
	wantErr(t, w, rename("/b/f", "/a/c"), api.EIsDir)
	wantErr(t, w, rename("/a", "/a/c/x"), api.EInval)
	wantErr(t, w, rename("/a", "/a/c"), api.EInval)
	wantErr(t, w, rename("/b", "/a/c"), api.OK) // over an empty one
	wantItems(t, w, item("/", 1, 3), item("/a", 2, 3), item("/a/c", 3, 2), fileItem("/a/c/f", 5, 1, "one"))
	wantResult(t, w, stat("/a/c/../../a"), dirStat(2, 3))
	wantErr(t, w, rename("/a/c", "/d"), api.OK)
	wantResult(t, w, stat("/d/.."), dirStat(1, 4))
	done(t, w, link("/d/f", "/a/g"))
	wantErr(t, w, rename("/d/f", "/a/g"), api.OK) // one file: nothing changes
	wantErr(t, w, rename("/d", "/d"), api.OK)
	wantItems(t, w, item("/", 1, 4), item("/a", 2, 2), fileItem("/a/g", 5, 2, "one"), item("/d", 3, 2), fileItem("/d/f", 5, 2, "one"))
	for _, p := range []string{"/", "/.", "/a/.", "/d/.."} {
		wantErr(t, w, rename(p, "/x"), api.EBusy)
		wantErr(t, w, rename("/d/f", p), api.EBusy)
	}
	wantErr(t, w, rename("/x", "/"), api.ENoEnt)
	wantErr(t, w, rename("/x", "a"), api.ENoEnt)
	wantErr(t, w, rename("/", "a"), api.EBusy)
}

// TestMostLinks: P23.1: 1024 links of a file and of a directory, and EMLink, where it is told.
func TestMostLinks(t *testing.T) {
	w := model.New()
	done(t, w, mkdir("/d"), open("/f", 1), mkdir("/x"), mkdir("/x/y"), mkdir("/x/z"))
	for i := range 1022 {
		done(t, w, mkdir("/d/"+strconv.Itoa(i)))
	}
	wantResult(t, w, stat("/d"), dirStat(2, 1024))
	wantErr(t, w, mkdir("/d/more"), api.EMLink)
	wantErr(t, w, mkdir("/d/5"), api.EExist)
	wantErr(t, w, rename("/x", "/d/more"), api.EMLink)
	wantErr(t, w, rename("/x/y", "/d/more"), api.EMLink)
	wantErr(t, w, rename("/x", "/d/5"), api.OK) // it gives way
	wantErr(t, w, rename("/d/5", "/d/x"), api.OK)
	wantErr(t, w, rename("/f", "/d/f"), api.OK)
	wantErr(t, w, rename("/d/x/y", "/d/f"), api.ENotDir)
	wantResult(t, w, stat("/d"), dirStat(2, 1024))
	wantErr(t, w, rename("/d/0", "/0"), api.OK)
	wantResult(t, w, stat("/d"), dirStat(2, 1023))
	wantErr(t, w, mkdir("/d/more"), api.OK)
	wantErr(t, w, rmdir("/d/more"), api.OK)
	wantErr(t, w, rename("/0", "/d/0"), api.OK)
	for i := range 1023 {
		done(t, w, link("/d/f", "/l"+strconv.Itoa(i)))
	}
	wantResult(t, w, stat("/l0"), fileStat(3, 0, 1024))
	wantErr(t, w, link("/l0", "/more"), api.EMLink)
	wantErr(t, w, link("/l0", "/l1"), api.EExist)
	wantErr(t, w, rename("/l0", "/more"), api.OK)
	wantErr(t, w, unlink("/l1"), api.OK)
	wantErr(t, w, link("/more", "/l1"), api.OK)
	wantTree(t, w.Items())
}

// TestItems: P23.2: an item for each entry, whatever directory it is in, rising by whole paths.
func TestItems(t *testing.T) {
	w := model.New()
	done(t, w, mkdir("/a"), mkdir("/a!"), mkdir("/a/b"), open("/a/b/f", 1), write(0, 0, "x"), link("/a/b/f", "/a!/g"), link("/a/b/f", "/a0"), open("/a\xff", 1))
	wantItems(t, w,
		item("/", 1, 4), item("/a", 2, 3), item("/a!", 3, 2), fileItem("/a!/g", 5, 3, "x"), item("/a/b", 4, 2), fileItem("/a/b/f", 5, 3, "x"), fileItem("/a0", 5, 3, "x"), fileItem("/a\xff", 6, 1, ""))
	l := w.Items()
	l[0].Path, l[3].Data = "x", "y" // R3: an answer is new memory
	names := w.Do(list("/")).Names
	names[0] = "zzz"
	wantResult(t, w, list("/"), named("a", "a!", "a0", "a\xff"))
	if w.Items()[0].Path != "/" || w.Items()[3].Data != "x" {
		t.Error("an answer is kept")
	}
}

// TestDeep: P23.2, P23.4: directories lie deeper than any path that may be, as renames lay them there.
func TestDeep(t *testing.T) {
	w := model.New()
	text := ""
	for range 200 {
		text += "/a"
		done(t, w, mkdir(text))
	}
	for range 12 {
		done(t, w, mkdir("/b"))
		for i := 1; i < 100; i++ {
			done(t, w, mkdir(strings.Repeat("/b", i+1)))
		}
		done(t, w, rename("/a", strings.Repeat("/b", 100)+"/a"), rename("/b", "/a"))
	}
	l := w.Items()
	if n := len(l); n != 1+200+1200 || len(l[n-1].Path) < 2*1400 {
		t.Error("Items", n, len(l[n-1].Path))
	}
	wantTree(t, l)
	up := strings.Repeat("/b", 99) + "/a"
	wantErr(t, w, rename("/a", "/a"+up+"/x"), api.EInval)
	wantResult(t, w, stat("/a"+up+strings.Repeat("/..", 100)), dirStat(w.Do(stat("/a")).Stat.Number, 3))
}

// TestForks: P23.2: what is done to one world is not done to the other.
func TestForks(t *testing.T) {
	w := model.New()
	done(t, w, mkdir("/d"), open("/d/f", 1), write(0, 0, "abc"), open("/g", 1), unlink("/g"), write(1, 0, "orphan"))
	was := w.Items()
	u := w.Fork()
	wantItems(t, u, was...)
	wantResult(t, u, read(1, 0, 9), bytesOf("orphan"))
	wantResult(t, u, open("/d/h", 1), handled(2))
	done(t, u, write(0, 1, "X"), write(1, 0, "Y"), mkdir("/d/e"), closing(0))
	wantItems(t, w, was...)
	wantResult(t, w, read(0, 0, 9), bytesOf("abc"))
	wantResult(t, w, read(1, 0, 9), bytesOf("orphan"))
	wantErr(t, w, fsync(2), api.EBadF)
	if w.Next() != 5 || u.Next() != 7 {
		t.Error("Next", w.Next(), u.Next())
	}
	done(t, w, rename("/d/f", "/x"), rmdir("/d"), truncate(1, 0), closing(1))
	wantItems(t, u, item("/", 1, 3), item("/d", 2, 3), item("/d/e", 6, 2), fileItem("/d/f", 3, 1, "aXc"), fileItem("/d/h", 5, 1, ""))
	wantResult(t, u, read(1, 0, 9), bytesOf("Yrphan"))
	s := u.Restart()
	wantErr(t, s, read(1, 0, 9), api.EBadF)
	wantResult(t, u, read(1, 0, 9), bytesOf("Yrphan")) // which goes on
	wantItems(t, s, u.Items()...)
}

// TestNilWorld: P23.2: what a nil World tells.
func TestNilWorld(t *testing.T) {
	for _, w := range []*model.World{nil, new(model.World)} {
		for kind := -1; kind <= 20; kind++ {
			wantErr(t, w, api.Op{Kind: kind, Path: "/", Flags: 1}, api.EBadF)
		}
		if len(w.Items()) != 0 || w.Restart() != nil || w.Fork() != nil || w.Next() != 0 {
			t.Error("of no world", w.Items(), w.Restart(), w.Fork(), w.Next())
		}
	}
}

// TestMutates: P23.3: of each kind, with and without what it hangs on, told OK or not.
func TestMutates(t *testing.T) {
	always := []int{api.OpClose, api.OpTruncate, api.OpMkdir, api.OpRmdir, api.OpLink, api.OpUnlink, api.OpRename, api.OpRemount}
	for kind := -2; kind <= 22; kind++ {
		for flags := -9; flags <= 17; flags++ {
			for _, data := range []string{"", "a", "\x00"} {
				want := slices.Contains(always, kind) || kind == api.OpWrite && data != "" || kind == api.OpOpen && (flags&1 == 1 || flags&4 == 4)
				o := api.Op{Kind: kind, Flags: flags, Data: data}
				if got := model.Mutates(o, api.Result{N: 3, Handle: 5}); got != want {
					t.Error("Mutates", o, got)
				}
				for _, e := range []api.Errno{api.ErrArg, api.EInval, api.ENoSpc, -1} {
					if model.Mutates(o, api.Result{Err: e}) {
						t.Error("Mutates", o, e)
					}
				}
			}
		}
	}
	if model.Mutates(api.Op{}, api.Result{}) {
		t.Error("Mutates of nothing")
	}
}

// TestSame: P23.3: all fields count; nil and the empty list are the same.
func TestSame(t *testing.T) {
	full := api.Result{Err: 1, Handle: 2, N: 3, Data: "d", Stat: api.Stat{Number: 4, Dir: true, Size: 5, Links: 6}, Names: []string{"a", "b"}}
	others := make([]api.Result, 12)
	for i := range others {
		o := full
		switch i {
		case 0:
			o.Err = 0
		case 1:
			o.Handle++
		case 2:
			o.N++
		case 3:
			o.Data = ""
		case 4:
			o.Stat.Number++
		case 5:
			o.Stat.Dir = false
		case 6:
			o.Stat.Size++
		case 7:
			o.Stat.Links++
		case 8:
			o.Names = []string{"b", "a"}
		case 9:
			o.Names = []string{"a"}
		case 10:
			o.Names = []string{"a", "b", ""}
		case 11:
			o.Names = nil
		}
		others[i] = o
	}
	for i, o := range others {
		if model.Same(full, o) || model.Same(o, full) {
			t.Error("Same", i)
		}
	}
	copied := full
	copied.Names = slices.Clone(full.Names)
	if !model.Same(full, copied) || !model.Same(full, full) {
		t.Error("not Same as itself")
	}
	if !model.Same(api.Result{}, api.Result{Names: []string{}}) || !model.Same(api.Result{Names: []string{}}, api.Result{}) {
		t.Error("not Same: nil and the empty list")
	}
}
