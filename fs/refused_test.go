package fs_test

import (
	"slices"
	"strings"
	"testing"

	"dedup/api"
	"dedup/fs"
	"dedup/model"
	"dedup/tree"
)

// keep reserves all but n of the sectors that are left: a volume that is full.
func keep(t *testing.T, f *fs.Fs, n int) {
	t.Helper()
	sp := f.Volume().Book().Space()
	if e := sp.Reserve(sp.Left() - n); e != api.OK {
		t.Fatal("Reserve", e)
	}
}

// aFull is a file system without room, nothing of which has changed since the last checkpoint: of the descriptors 0 is open on /f, 1 on a file without a name.
func aFull(t *testing.T, left int) (*fs.Fs, *model.World) {
	t.Helper()
	f, w := format(t, someShape(64)), model.New()
	for _, o := range []api.Op{open("/f", 1), write(0, 0, some(300, 1)), open("/g", 1), write(1, 0, some(200, 2)), unlink("/g"), mkdir("/d"), mkdir("/e"), link("/f", "/d/f"), of(api.OpCheckpoint)} {
		done(t, f, o)
		w.Do(o)
	}
	keep(t, f, left)
	return f, w
}

// TestNoSpace: P27.1, P27.3: a change for which there is no room is told ENoSpc, and nothing has changed; what is wrong is told ahead of that; what changes nothing is told as ever.
func TestNoSpace(t *testing.T) {
	f, w := aFull(t, 0)
	image := f.Volume().Disk().Image()
	for _, o := range []api.Op{
		open("/n", 1), open("/f", 4), open("/f", 5), write(0, 0, "other"), write(0, 700, "more"), write(1, 0, "x"), truncate(0, 5), truncate(0, 1000), truncate(1, 0),
		mkdir("/n"), rmdir("/d/../e"), link("/f", "/n"), unlink("/f"), unlink("/d/f"), rename("/f", "/n"), rename("/e", "/d/e"), rename("/d", "/e"),
	} {
		want := w.Fork().Do(o)
		if want.Err == api.ENotEmpty || !model.Mutates(o, want) && want.Err == api.OK {
			t.Fatal("no change", short(o), want)
		}
		wantErr(t, f, o, api.ENoSpc)
		wantWorld(t, f, w)
	}
	for _, o := range []api.Op{
		open("/n/x", 1), open("/d", 5), open("/f", 3), open("/f", 9), write(0, api.MaxFile, "x"), write(7, 0, "x"), write(0, 0, ""), truncate(0, -1), truncate(0, api.MaxFile+1), mkdir("/d"), rmdir("/d"), link("/d", "/n"), unlink("/e"), rename("/x", "/n"),
		open("/f", 0), read(0, 0, 400), read(1, 0, 400), stat("/f"), list("/"), fsync(0), of(api.OpSync), of(api.OpClean), of(api.OpCompact), of(api.OpEvict), of(api.OpCheckpoint), closing(2),
	} {
		wantResult(t, f, o, w.Do(o))
		wantWorld(t, f, w)
	}
	if !slices.Equal(image, f.Volume().Disk().Image()) {
		t.Error("something was written")
	}
	done(t, f, of(api.OpRemount)) // where there is room again
	w.Do(of(api.OpRemount))
	wantWorld(t, f, w)
	done(t, f, open("/n", 1))
}

// TestRefusedIsNothing: P27.1: a call that was refused changes nothing of what is written later, though it had laid containers.
func TestRefusedIsNothing(t *testing.T) {
	refused := 0
	for left := range 30 {
		for _, n := range []int{500, 1000, 2000, 3000} {
			f, _ := aFull(t, left)
			g, _ := aFull(t, left)
			var l []api.Op
			for i := range 12 { // so that there are more dirty nodes than free sectors that stand alone
				l = append(l, mkdir("/"+strings.Repeat(string(rune('a'+i)), 32)))
			}
			for _, o := range append(l, write(0, 0, some(n, 5)), of(api.OpCheckpoint), of(api.OpSync), write(0, 0, "x"), of(api.OpCheckpoint)) {
				got := f.Do(o)
				if len(o.Data) > 1 {
					if got.Err == api.OK {
						break
					}
					refused++
					continue // this one is not asked of the other one
				}
				if want := g.Do(o); !model.Same(got, want) {
					t.Fatal(left, n, short(o), got, want)
				}
				if !slices.Equal(f.Volume().Disk().Image(), g.Volume().Disk().Image()) {
					t.Fatal(left, n, "another image behind", short(o))
				}
			}
		}
	}
	if refused < 20 {
		t.Error("refused", refused)
	}
}

// set lets a file system's present state have another tree.
func set(t *testing.T, f *fs.Fs, change func(u *tree.Tree) (*tree.Tree, api.Errno)) {
	t.Helper()
	u, e := change(f.Volume().Book().Tree())
	if e != api.OK {
		t.Fatal("change", e)
	}
	f.Volume().Book().Set(u)
}

// put is a change that gives a key a value.
func put(key, value string) func(u *tree.Tree) (*tree.Tree, api.Errno) {
	return func(u *tree.Tree) (*tree.Tree, api.Errno) { return u.Put(key, value) }
}

// gone is a change that takes a key away.
func gone(key string) func(u *tree.Tree) (*tree.Tree, api.Errno) {
	return func(u *tree.Tree) (*tree.Tree, api.Errno) { return u.Delete(key) }
}

// key is the key of a prefix and numbers.
func key(prefix byte, numbers ...int) string {
	k := string(prefix)
	for _, n := range numbers {
		k += string([]byte{0, 0, 0, 0, byte(n >> 24), byte(n >> 16), byte(n >> 8), byte(n)})
	}
	return k
}

// TestSpoilt: P27.1: where the volume is not as it should be, that is told, with an error that is none of POSIX's, and nothing has changed.
func TestSpoilt(t *testing.T) {
	for what, c := range map[string]struct {
		change func(u *tree.Tree) (*tree.Tree, api.Errno)
		want   api.Errno
		ops    []api.Op
	}{
		"an inode":  {put(key('i', 2), "x"), api.ErrInode, []api.Op{open("/f", 0), open("/f", 1), stat("/f"), read(0, 0, 5), write(0, 0, "a"), truncate(0, 5), link("/f", "/g"), unlink("/f")}},
		"an entry":  {put(key('d', 1)+"f", "x"), api.ErrDir, []api.Op{open("/f", 0), open("/f", 4), list("/"), mkdir("/f"), rmdir("/f"), rename("/f", "/g")}},
		"an extent": {put(key('x', 2, 0), "x"), api.ErrExtent, []api.Op{read(0, 0, 5), write(0, 0, "a"), truncate(0, 1)}},
		"a chunk":   {gone(key('c', 1)), api.ErrChunk, []api.Op{read(0, 0, 5), write(0, 0, "a"), truncate(0, 1)}},
		"counters":  {put("s", "x"), api.ErrInode, []api.Op{mkdir("/d"), open("/g", 1)}},
	} {
		f := format(t, someShape(64))
		done(t, f, open("/f", 1), write(0, 0, "abc"))
		set(t, f, c.change)
		u := f.Volume().Book().Tree()
		for _, o := range c.ops {
			wantErr(t, f, o, c.want)
			if f.Volume().Book().Tree() != u || f.Volume().Disk().Off() {
				t.Fatal(what, short(o), "something has changed")
			}
		}
		wantResult(t, f, closing(0), api.Result{})
	}
}

// TestItemsRefused: P27.2: what reading refuses; and Items end where a directory lies below itself.
func TestItemsRefused(t *testing.T) {
	for what, c := range map[string]struct {
		change func(u *tree.Tree) (*tree.Tree, api.Errno)
		want   api.Errno
	}{
		"an inode":     {put(key('i', 2), "x"), api.ErrInode},
		"no inode":     {gone(key('i', 2)), api.ErrNone},
		"no root":      {gone(key('i', 1)), api.ErrNone},
		"an entry":     {put(key('d', 1)+"f", "x"), api.ErrDir},
		"an extent":    {put(key('x', 2, 0), "x"), api.ErrExtent},
		"a chunk":      {gone(key('c', 1)), api.ErrChunk},
		"no container": {gone(key('k', 1)), api.ErrChunk},
	} {
		f := format(t, someShape(64))
		done(t, f, open("/f", 1), write(0, 0, "abc"))
		set(t, f, c.change)
		if l, e := f.Items(); l != nil || e != c.want {
			t.Error(what, l, e)
		}
	}
	f := format(t, someShape(64))
	done(t, f, mkdir("/d"), mkdir("/d/e"))
	set(t, f, put(key('d', 3)+"d", "\x00\x00\x00\x02\x02"))
	l := items(t, f)
	var names []string
	for _, x := range l {
		names = append(names, x.Path)
	}
	if strings.Join(names, " ") != "/ /d /d/e /d/e/d" {
		t.Error("a ring", names)
	}
}

// TestRight: P27.2: what Right tells of each thing that is not as it should be, and in which order.
func TestRight(t *testing.T) {
	record := func(refs byte) func(u *tree.Tree) (*tree.Tree, api.Errno) {
		return func(u *tree.Tree) (*tree.Tree, api.Errno) {
			value, _, _ := u.Get(key('c', 1))
			return u.Put(key('c', 1), value[:47]+string(refs))
		}
	}
	twice := func(changes ...func(u *tree.Tree) (*tree.Tree, api.Errno)) func(u *tree.Tree) (*tree.Tree, api.Errno) {
		return func(u *tree.Tree) (_ *tree.Tree, e api.Errno) {
			for _, change := range changes {
				if u, e = change(u); e != api.OK {
					return nil, e
				}
			}
			return u, e
		}
	}
	extent, container := "\x00\x00\x00\x01\x00\x00\x00\x03", "\x00\x00\x00\x06\x00\x00\x00\x05\x00\x00\x00"
	for what, c := range map[string]struct {
		change func(u *tree.Tree) (*tree.Tree, api.Errno)
		want   api.Errno
	}{
		"as it is":                      {put("z", "nobody's"), api.OK},
		"no root":                       {gone(key('i', 1)), api.ENoEnt},
		"an inode":                      {put(key('i', 2), "x"), api.ErrInode},
		"an entry":                      {put(key('d', 1)+"f", "x"), api.ErrDir},
		"names":                         {gone(key('d', 1) + "f"), api.EInval},
		"names ahead of extents":        {twice(gone(key('d', 1)+"f"), put(key('x', 2, 0), "x")), api.EInval},
		"an extent":                     {put(key('x', 2, 0), "x"), api.ErrExtent},
		"extents ahead of chunks":       {twice(put(key('x', 9, 0), "x"), gone(key('c', 1))), api.ErrExtent},
		"an extent above the size":      {put(key('x', 2, 50), extent), api.ErrExtent},
		"no chunk":                      {gone(key('c', 1)), api.ErrChunk},
		"a longer extent":               {put(key('x', 2, 0), "\x00\x00\x00\x01\x00\x00\x00\x02"), api.ErrChunk},
		"a chunk's Refs":                {record(2), api.ErrChunk},
		"as many extents more":          {twice(record(2), put(key('x', 2, 10), extent), put(key('i', 2), "\x01\x00\x00\x00\x0d\x00\x00\x00\x01\x00\x00\x00\x00")), api.OK},
		"an extent of no inode":         {put(key('x', 9, 0), extent), api.ErrChunk},
		"a chunk without extents":       {gone(key('x', 2, 0)), api.ErrChunk},
		"a chunk's container":           {gone(key('k', 1)), api.ErrChunk},
		"a container's Live":            {put(key('k', 1), container+"\x02"), api.ErrChunk},
		"a container's Slots":           {put(key('k', 1), container+"\x01"), api.OK},
		"a container without a chunk":   {put(key('k', 2), container+"\x01"), api.ErrChunk},
		"an empty one":                  {put(key('k', 2), container+"\x00"), api.OK},
		"a container that is no record": {put(key('k', 1), "x"), api.ErrChunk},
	} {
		f := format(t, someShape(64))
		done(t, f, open("/f", 1), write(0, 0, "abc"))
		set(t, f, c.change)
		if e := f.Right(); e != c.want {
			t.Error(what, e, "want", c.want)
		}
	}
}

// TestRightReads: P27.2: chunks whose bytes are not there any more: those of files, and others.
func TestRightReads(t *testing.T) {
	f := format(t, someShape(64))
	done(t, f, open("/f", 1), write(0, 0, "abc"), of(api.OpRemount))
	first := containers(t, f.Volume().Book())[0].First
	if e := f.Right(); e != api.OK {
		t.Error("as it is", e)
	}
	d := f.Volume().Disk()
	d.Write(first, make([]byte, 512))
	d.Flush()
	if e := f.Right(); e != api.OK {
		t.Error("what is in memory", e)
	}
	done(t, f, of(api.OpEvict))
	if e := f.Right(); e != api.ErrChunk {
		t.Error("what is on the disk", e)
	}
	if l, e := f.Items(); l != nil || e != api.ErrChunk {
		t.Error("Items", l, e)
	}
}
