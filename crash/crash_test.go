package crash_test

import (
	"reflect"
	"slices"
	"strings"
	"testing"

	"dedup/api"
	"dedup/crash"
	"dedup/disk"
	"dedup/fs"
)

// someShape is a small volume's.
func someShape() api.Shape {
	return api.Shape{Sector: 512, Sectors: 96, Journal: 6, Pack: 4, Cut: api.Cut{Min: 8, Normal: 16, Max: 64}, Bits: 256, Dedup: true}
}

// of is an operation without arguments.
func of(kind int) api.Op {
	return api.Op{Kind: kind}
}

func create(p string) api.Op {
	return api.Op{Kind: api.OpOpen, Path: p, Flags: api.FlagCreate}
}

func closing(h int) api.Op {
	return api.Op{Kind: api.OpClose, Handle: h}
}

func write(h, offset int, data string) api.Op {
	return api.Op{Kind: api.OpWrite, Handle: h, Offset: offset, Data: data}
}

func read(h, offset, n int) api.Op {
	return api.Op{Kind: api.OpRead, Handle: h, Offset: offset, N: n}
}

func fsync(h int) api.Op {
	return api.Op{Kind: api.OpFsync, Handle: h}
}

// by is an operation on a path.
func by(kind int, p string) api.Op {
	return api.Op{Kind: kind, Path: p}
}

// theRoot is the root, as an item, with so many links.
func theRoot(links int) api.Item {
	return api.Item{Path: "/", Stat: api.Stat{Number: 1, Dir: true, Links: links}}
}

// aFile is a file with one link, as an item.
func aFile(p string, number int, data string) api.Item {
	return api.Item{Path: p, Stat: api.Stat{Number: number, Size: len(data), Links: 1}, Data: data}
}

// aDir is a directory without others below, as an item.
func aDir(p string, number int) api.Item {
	return api.Item{Path: p, Stat: api.Stat{Number: number, Dir: true, Links: 2}}
}

// someOps is operations of many kinds, some of which are refused.
func someOps() []api.Op {
	return []api.Op{
		create("/f"), write(0, 0, strings.Repeat("abc", 50)), of(api.OpSync), by(api.OpMkdir, "/d"), write(0, 100, "0123456789"), fsync(0),
		create("/d/g"), write(1, 5, strings.Repeat("xyzw", 100)), by(api.OpMkdir, "/d"), of(api.OpCheckpoint), by(api.OpUnlink, "/f"), read(0, 95, 20),
		of(api.OpClean), fsync(7), closing(0), of(api.OpSync), {Kind: api.OpRename, Path: "/d/g", Other: "/h"}, of(api.OpRemount), create("/i"),
		of(api.OpEvict), of(api.OpCompact), by(api.OpStat, "/h"), by(api.OpList, "/"), {Kind: 77}, {Kind: api.OpTruncate, Handle: 0, N: 1000}, of(api.OpSync),
	}
}

// played is what Play tells, which must be OK.
func played(t *testing.T, s api.Shape, lives []api.Life) api.Tale {
	t.Helper()
	tale := crash.Play(s, lives)
	if tale.Err != api.OK || len(tale.Lives) != len(lives) {
		t.Fatal("Play", tale.Err, len(tale.Lives))
	}
	return tale
}

// wantSame holds that two things are the same.
func wantSame[T any](t *testing.T, what string, got, want T) {
	t.Helper()
	if !reflect.DeepEqual(got, want) {
		t.Errorf("%s: %+v, want %+v", what, got, want)
	}
}

// wantItems holds which items there are.
func wantItems(t *testing.T, what string, got []api.Item, want ...api.Item) {
	t.Helper()
	if !slices.Equal(got, want) {
		t.Errorf("%s: %+v, want %+v", what, got, want)
	}
}

// writesOf is how many writes and flushes a disk has done.
func writesOf(d *disk.Disk) int {
	_, writes, flushes := d.Counts()
	return writes + flushes
}

// TestExample: P29.1: the chapter's example: what was synced is found, what came later is not.
func TestExample(t *testing.T) {
	l := []api.Life{{Ops: []api.Op{create("/f"), write(0, 0, "abc"), of(api.OpSync), write(0, 3, "def")}, Stop: -1}}
	tale := played(t, someShape(), l)
	wantItems(t, "End", tale.End, theRoot(2), aFile("/f", 2, "abc"))
	x := tale.Lives[0]
	wantItems(t, "Items", x.Items, theRoot(2))
	wantSame(t, "Results", x.Results, []api.Result{{}, {N: 3}, {}, {N: 3}})
	if x.Mount != api.OK || !x.Mounted || x.Begun != 4 || x.Ended != 4 || x.Writes < 4 {
		t.Errorf("%+v", x)
	}
	if ok, at := crash.Explain(l, tale); !ok || at != 0 {
		t.Error("Explain", ok, at)
	}
}

// TestPlayRefused: P29.1: how many lives and operations there may be, which shapes, and which error comes first.
func TestPlayRefused(t *testing.T) {
	wrong := someShape()
	wrong.Pack = 1
	ops := func(n int) api.Life { return api.Life{Ops: slices.Repeat([]api.Op{of(api.OpEvict)}, n), Stop: -1} }
	for i, c := range []struct {
		shape api.Shape
		lives []api.Life
		want  api.Errno
	}{
		{someShape(), nil, api.OK},
		{someShape(), make([]api.Life, api.MaxLives), api.OK},
		{someShape(), make([]api.Life, api.MaxLives+1), api.ErrCrash},
		{someShape(), []api.Life{ops(api.MaxOps)}, api.OK},
		{someShape(), []api.Life{ops(api.MaxOps + 1)}, api.ErrCrash},
		{someShape(), []api.Life{ops(1), ops(api.MaxOps - 2), {}, ops(1)}, api.OK},
		{someShape(), []api.Life{ops(1), ops(api.MaxOps - 1), {}, ops(1)}, api.ErrCrash},
		{wrong, nil, api.ErrShape},
		{wrong, make([]api.Life, api.MaxLives), api.ErrShape},
		{wrong, make([]api.Life, api.MaxLives+1), api.ErrCrash},
		{api.Shape{}, []api.Life{ops(api.MaxOps + 1)}, api.ErrCrash},
	} {
		tale := crash.Play(c.shape, c.lives)
		if tale.Err != c.want {
			t.Error("Play", i, tale.Err, "want", c.want)
		}
		if c.want != api.OK {
			wantSame(t, "beside an error", tale, api.Tale{Err: c.want})
			continue
		}
		if len(tale.Lives) != len(c.lives) {
			t.Error("Play", i, len(tale.Lives))
		}
		wantItems(t, "End", tale.End, theRoot(2))
	}
}

// TestOff: P29.1: without power from the begin on: what is told of a first life, and of a later one.
func TestOff(t *testing.T) {
	ops := []api.Op{create("/f"), of(api.OpSync), by(api.OpRmdir, "/x")}
	tale := played(t, someShape(), []api.Life{{Ops: ops}, {Ops: ops}, {}})
	none := api.Lived{Results: []api.Result{{}, {}, {Err: api.ENoEnt}}}
	wantSame(t, "the first life", tale.Lives[0], none)
	wantSame(t, "the second one", tale.Lives[1], none)
	wantSame(t, "one without operations", tale.Lives[2], api.Lived{})
	wantItems(t, "End", tale.End, theRoot(2))
}

// moment is how many writes and flushes there were in a life ahead of an operation, and behind it.
type moment struct {
	before, after int
}

// byHand is a life on a disk without a Stop, step by step: how many writes and flushes the mount did, each operation, what they were told, and what the mount found.
func byHand(t *testing.T, d *disk.Disk, f *fs.Fs, ops []api.Op) (mount int, l []moment, told []api.Result, items []api.Item) {
	t.Helper()
	from, e := writesOf(d), api.OK
	if f == nil {
		if f, e = fs.Mount(d); e != api.OK {
			t.Fatal("Mount", e)
		}
	}
	mount = writesOf(d) - from
	if items, e = f.Items(); e != api.OK {
		t.Fatal("Items", e)
	}
	for _, o := range ops {
		before := writesOf(d) - from
		told = append(told, f.Do(o))
		l = append(l, moment{before, writesOf(d) - from})
	}
	return mount, l, told, items
}

// newOne is a new file system, and its disk.
func newOne(t *testing.T, s api.Shape) (*fs.Fs, *disk.Disk) {
	t.Helper()
	f, e := fs.Format(s)
	if e != api.OK {
		t.Fatal("Format", e)
	}
	return f, f.Volume().Disk()
}

// total is how many writes and flushes a life does.
func total(mount int, l []moment) int {
	if len(l) == 0 {
		return mount
	}
	return l[len(l)-1].after
}

// wantMoment holds what is told of a life whose power goes behind so many writes and flushes.
func wantMoment(t *testing.T, x api.Lived, stop, mount int, l []moment, told []api.Result, items []api.Item) {
	t.Helper()
	begun, ended, all := 0, 0, total(mount, l)
	for _, m := range l {
		if stop < 0 || m.before < stop {
			begun++
		}
		if stop < 0 || m.after < stop {
			ended++
		}
	}
	mounted := stop < 0 || mount < stop
	if !mounted {
		items = nil
	}
	if stop >= 0 {
		all = min(all, stop)
	}
	if x.Mount != api.OK || x.Mounted != mounted || x.Begun != begun || x.Ended != ended || x.Writes != all || len(x.Results) != len(l) {
		t.Errorf("stop %d: %+v, want %v, begun %d, ended %d, writes %d", stop, x, mounted, begun, ended, all)
	}
	wantItems(t, "Items", x.Items, items...)
	wantSame(t, "Results", x.Results[:ended], told[:ended])
}

// TestMoments: P29.1: the power goes behind each write or flush of a first life: what has begun and ended then, and how many there were.
func TestMoments(t *testing.T) {
	s, ops := someShape(), someOps()
	f, d := newOne(t, s)
	mount, l, told, items := byHand(t, d, f, ops)
	if mount != 0 || total(mount, l) < 30 {
		t.Fatal("writes", mount, total(mount, l))
	}
	for stop := -2; stop <= total(mount, l)+2; stop++ {
		x := played(t, s, []api.Life{{Ops: ops, Stop: stop}}).Lives[0]
		wantMoment(t, x, stop, mount, l, told, items)
	}
}

// TestLaterMoments: P29.1: the power goes behind each write or flush of a later life, from the mount's begin on.
func TestLaterMoments(t *testing.T) {
	s, first := someShape(), []api.Op{create("/a"), write(0, 0, "abc"), of(api.OpSync)}
	ops := append(someOps(), of(api.OpRemount))
	f, d := newOne(t, s)
	byHand(t, d, f, first)
	d.Crash(nil)
	mount, l, told, items := byHand(t, d, nil, ops)
	if mount < 3 {
		t.Fatal("writes", mount)
	}
	for stop := -1; stop <= total(mount, l)+1; stop++ {
		x := played(t, s, []api.Life{{Ops: first, Stop: -1}, {Ops: ops, Stop: stop}}).Lives[1]
		wantMoment(t, x, stop, mount, l, told, items)
	}
}

// TestKeep: P29.1: those of a Keep's numbers that are places of pending writes persist, whatever their order, and however often they stand there.
func TestKeep(t *testing.T) {
	s, ops := someShape(), someOps()
	ends := map[string]struct{}{}
	for stop := range 40 {
		f, d := newOne(t, s)
		d.Stop(stop)
		for _, o := range ops {
			f.Do(o)
		}
		n := len(d.Pending())
		for set := range 1 << min(n, 4) {
			var keep, mixed []int
			for i := range n {
				if set>>(i%4)&1 == 1 {
					keep = append(keep, i)
					mixed = append([]int{i, n + i, -1 - i, i}, mixed...)
				}
			}
			behind := d.Fork()
			if e := behind.Crash(keep); e != api.OK {
				t.Fatal("Crash", e)
			}
			found, e := fs.Mount(behind)
			if e != api.OK {
				t.Fatal("Mount", e)
			}
			want, _ := found.Items()
			for _, l := range [][]int{keep, mixed, append(mixed, 1<<62, -1<<63)} {
				given := slices.Clone(l)
				tale := played(t, s, []api.Life{{Ops: ops, Stop: stop, Keep: l}})
				wantItems(t, "End", tale.End, want...)
				if !slices.Equal(l, given) {
					t.Error("Keep has become", l)
				}
			}
			text := ""
			for _, it := range want {
				text += it.Path + " " + it.Data + "\n"
			}
			ends[text] = struct{}{}
		}
	}
	if len(ends) < 5 {
		t.Error("too few ends", len(ends))
	}
}

// TestKeepCounts: P29.1: of one moment: the end hangs on what is kept.
func TestKeepCounts(t *testing.T) {
	s, ops := someShape(), []api.Op{by(api.OpMkdir, "/d"), of(api.OpSync)}
	n, e := crash.Writes(s, ops)
	if e != api.OK || n != 2 { // a sector of the journal, and a flush
		t.Fatal("Writes", n, e)
	}
	for _, c := range []struct {
		keep []int
		want []api.Item
	}{
		{nil, []api.Item{theRoot(2)}},
		{[]int{0}, []api.Item{theRoot(3), aDir("/d", 2)}},
		{[]int{1}, []api.Item{theRoot(2)}},
		{[]int{-1}, []api.Item{theRoot(2)}},
		{[]int{5, 0, 0, -7}, []api.Item{theRoot(3), aDir("/d", 2)}},
	} {
		l := []api.Life{{Ops: ops, Stop: 1, Keep: c.keep}}
		tale := played(t, s, l)
		wantItems(t, "End", tale.End, c.want...)
		if x := tale.Lives[0]; x.Begun != 2 || x.Ended != 1 || x.Writes != 1 {
			t.Errorf("%+v", x)
		}
		if ok, at := crash.Explain(l, tale); !ok {
			t.Error("not explained", at)
		}
	}
}

// TestKeepOrder: P29.1: of a group of which the first sectors alone say something, places in any order are kept, and no others.
func TestKeepOrder(t *testing.T) {
	s := someShape()
	var ops []api.Op
	for i := range 16 {
		ops = append(ops, by(api.OpMkdir, "/a directory with a long name "+string(rune('a'+i))))
	}
	ops = append(ops, of(api.OpSync))
	n, e := crash.Writes(s, ops)
	if e != api.OK || n < 5 { // sectors of the journal, and a flush
		t.Fatal("Writes", n, e)
	}
	found := map[int]struct{}{}
	for first := range n {
		var keep []int
		for i := range first {
			keep = append([]int{i}, keep...)
		}
		l := []api.Life{{Ops: ops, Stop: n - 1, Keep: keep}}
		tale := played(t, s, l)
		if ok, at := crash.Explain(l, tale); !ok {
			t.Error("not explained", at)
		}
		if first == 0 && len(tale.End) != 1 || first == n-1 && len(tale.End) != 17 {
			t.Error("kept", first, "found", len(tale.End))
		}
		slices.Reverse(keep)
		rising := played(t, s, []api.Life{{Ops: ops, Stop: n - 1, Keep: keep}})
		wantItems(t, "in their order", rising.End, tale.End...)
		found[len(tale.End)] = struct{}{}
	}
	if len(found) < n-1 {
		t.Error("found", found)
	}
}

// TestNext: P29.1: each life goes on from what the crash ahead of it has left, with its descriptors free, and files without names freed; power that has gone is back.
func TestNext(t *testing.T) {
	s := someShape()
	lives := []api.Life{
		{Ops: []api.Op{create("/f"), write(0, 0, "one"), create("/g"), by(api.OpUnlink, "/f"), of(api.OpSync), read(0, 0, 9)}, Stop: -1},
		{Ops: []api.Op{read(0, 0, 9), by(api.OpStat, "/f"), create("/h"), write(0, 0, "two"), of(api.OpCheckpoint), write(0, 0, "six")}, Stop: -1},
		{Ops: []api.Op{create("/h"), read(0, 0, 9), create("/never")}, Stop: 0},
		{Ops: []api.Op{create("/h"), read(0, 0, 9)}, Stop: -1},
	}
	tale := played(t, s, lives)
	wantSame(t, "the first life", tale.Lives[0].Results, []api.Result{{}, {N: 3}, {Handle: 1}, {}, {}, {Data: "one"}})
	wantItems(t, "behind it", tale.Lives[1].Items, theRoot(2), aFile("/g", 3, ""))
	wantSame(t, "the second one", tale.Lives[1].Results, []api.Result{{Err: api.EBadF}, {Err: api.ENoEnt}, {}, {N: 3}, {}, {N: 3}})
	if x := tale.Lives[2]; x.Mounted || x.Begun != 0 || x.Writes != 0 || len(x.Items) > 0 || len(x.Results) != 3 {
		t.Errorf("the third one: %+v", x)
	}
	wantItems(t, "behind it", tale.Lives[3].Items, theRoot(2), aFile("/g", 3, ""), aFile("/h", 4, "two"))
	wantSame(t, "the last one", tale.Lives[3].Results, []api.Result{{}, {Data: "two"}})
	wantItems(t, "End", tale.End, theRoot(2), aFile("/g", 3, ""), aFile("/h", 4, "two"))
	if ok, at := crash.Explain(lives, tale); !ok {
		t.Error("not explained", at)
	}
}

// TestWrites: P29.2, P29.7: what the operations do, as a life of them does without a Stop; of any number of operations; refused shapes.
func TestWrites(t *testing.T) {
	s := someShape()
	for n := range len(someOps()) + 1 {
		ops := someOps()[:n]
		f, d := newOne(t, s)
		mount, l, _, _ := byHand(t, d, f, ops)
		if got, e := crash.Writes(s, ops); got != total(mount, l) || e != api.OK {
			t.Error("Writes", n, got, e, "want", total(mount, l))
		}
		if x := played(t, s, []api.Life{{Ops: ops, Stop: -1}}).Lives[0]; x.Writes != total(mount, l) || x.Begun != n || x.Ended != n {
			t.Error("Play", n, x.Writes, x.Begun, x.Ended)
		}
	}
	if n, e := crash.Writes(s, nil); n != 0 || e != api.OK {
		t.Error("of nothing", n, e)
	}
	if n, e := crash.Writes(s, []api.Op{of(api.OpSync), of(api.OpCheckpoint), by(api.OpMkdir, "")}); n != 0 || e != api.OK {
		t.Error("of nothing to do", n, e)
	}
	many := append(slices.Repeat([]api.Op{of(api.OpEvict)}, api.MaxOps), by(api.OpMkdir, "/d"), of(api.OpSync))
	if n, e := crash.Writes(s, many); n != 2 || e != api.OK {
		t.Error("of many", n, e)
	}
	s.Bits = -1
	if n, e := crash.Writes(s, many); n != 0 || e != api.ErrShape {
		t.Error("of a wrong shape", n, e)
	}
}

// TestHandedIn: P29.1 with R3: what is handed in stays as it is, and what is told shares nothing with another telling.
func TestHandedIn(t *testing.T) {
	s, ops := someShape(), someOps()
	lives := func() []api.Life {
		keep := make([]int, 4, 9)
		copy(keep, []int{3, 1, 1, 0})
		return []api.Life{{Ops: slices.Clone(ops), Stop: 9, Keep: keep}, {Ops: slices.Clone(ops), Stop: -1}}
	}
	l := lives()
	tale, again := played(t, s, l), played(t, s, l)
	wantSame(t, "the lives", l, lives())
	wantSame(t, "the same", again, tale)
	for i := range again.Lives {
		clear(again.Lives[i].Items)
		clear(again.Lives[i].Results)
	}
	clear(again.End)
	wantSame(t, "another telling", played(t, s, l), tale)
	crash.Explain(l, tale)
	wantSame(t, "behind Explain", tale, played(t, s, l))
	wantSame(t, "the lives", l, lives())
}
