package fs

import (
	"dedup/api"
	"dedup/chunk"
	"dedup/dir"
	"dedup/file"
	"dedup/inode"
	"dedup/name"
	"dedup/tree"
)

// tellStat tells what a path leads to.
func (f *Fs) tellStat(o api.Op) (api.Result, api.Errno) {
	x, e := name.Stat(f.tree(), o.Path)
	return api.Result{Stat: x}, e
}

// list tells a directory's names.
func (f *Fs) list(o api.Op) (api.Result, api.Errno) {
	x, e := name.Stat(f.tree(), o.Path)
	if e != api.OK {
		return api.Result{}, e
	}
	if !x.Dir {
		return api.Result{}, api.ENotDir
	}
	names, e := dir.Names(f.tree(), x.Number)
	return api.Result{Names: names}, e
}

// changeTree is a change of names alone.
func (f *Fs) changeTree(do func(t *tree.Tree) (*tree.Tree, api.Errno)) (api.Result, api.Errno) {
	return api.Result{}, f.change(func(b *chunk.Book) api.Errno {
		t, e := do(b.Tree())
		if e != api.OK {
			return e
		}
		return b.Set(t)
	})
}

// mkdir makes a directory.
func (f *Fs) mkdir(o api.Op) (api.Result, api.Errno) {
	return f.changeTree(func(t *tree.Tree) (*tree.Tree, api.Errno) { return name.Mkdir(t, o.Path) })
}

// rmdir takes an empty directory away.
func (f *Fs) rmdir(o api.Op) (api.Result, api.Errno) {
	return f.changeTree(func(t *tree.Tree) (*tree.Tree, api.Errno) { return name.Rmdir(t, o.Path) })
}

// link gives a file one name more.
func (f *Fs) link(o api.Op) (api.Result, api.Errno) {
	return f.changeTree(func(t *tree.Tree) (*tree.Tree, api.Errno) { return name.Link(t, o.Path, o.Other) })
}

// unnaming is a change of names by which a file may lose one: the tree, the file's number, and the links it has then.
type unnaming func(t *tree.Tree) (u *tree.Tree, number, links int, e api.Errno)

// changeNames does one; a file without links stays as long as a descriptor is open on it.
func (f *Fs) changeNames(do unnaming) (api.Result, api.Errno) {
	return api.Result{}, f.change(func(b *chunk.Book) api.Errno {
		t, number, links, e := do(b.Tree())
		if e != api.OK {
			return e
		}
		if e := b.Set(t); e != api.OK || number == 0 || links > 0 {
			return e
		}
		if f.handles.Count(number) == 0 {
			return freeFile(b, number)
		}
		if t, e = inode.Orphan(t, number); e != api.OK {
			return e
		}
		return b.Set(t)
	})
}

// unlink takes a file's name away.
func (f *Fs) unlink(o api.Op) (api.Result, api.Errno) {
	return f.changeNames(func(t *tree.Tree) (*tree.Tree, int, int, api.Errno) { return name.Unlink(t, o.Path) })
}

// rename gives a thing another name, or another directory.
func (f *Fs) rename(o api.Op) (api.Result, api.Errno) {
	return f.changeNames(func(t *tree.Tree) (*tree.Tree, int, int, api.Errno) { return name.Rename(t, o.Path, o.Other) })
}

// freeFile lets a file's content and its inode go.
func freeFile(b *chunk.Book, number int) api.Errno {
	if e := file.Free(b, number); e != api.OK {
		return e
	}
	t, e := inode.Remove(b.Tree(), number)
	if e != api.OK {
		return e
	}
	return b.Set(t)
}

// freeOrphan lets a file that has a mark go, and the mark.
func freeOrphan(b *chunk.Book, number int) api.Errno {
	if e := freeFile(b, number); e != api.OK {
		return e
	}
	t, e := inode.Adopt(b.Tree(), number)
	if e != api.OK {
		return e
	}
	return b.Set(t)
}
