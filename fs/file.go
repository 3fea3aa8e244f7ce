package fs

import (
	"dedup/api"
	"dedup/chunk"
	"dedup/file"
	"dedup/inode"
	"dedup/name"
)

// openFile opens the least free descriptor.
func (f *Fs) openFile(o api.Op) (api.Result, api.Errno) {
	if o.Flags < 0 || o.Flags > api.FlagCreate|api.FlagExclusive|api.FlagTruncate {
		return api.Result{}, api.EInval
	}
	if len(f.handles.All()) == api.MaxHandles {
		return api.Result{}, api.EMFile
	}
	number, e := f.fileToOpen(o)
	if e != api.OK {
		return api.Result{}, e
	}
	handle, e := f.handles.Open(number, o.Flags)
	return api.Result{Handle: handle}, e
}

// fileToOpen is the number of the file that is to be opened, as it is to be then. What may only look is no change: there is always room for it.
func (f *Fs) fileToOpen(o api.Op) (int, api.Errno) {
	number := 0
	look := func(b *chunk.Book) (e api.Errno) {
		number, e = madeReady(b, o)
		return e
	}
	var e api.Errno
	if o.Flags&(api.FlagCreate|api.FlagTruncate) == 0 {
		e = look(f.vol.Book())
	} else {
		e = f.change(look)
	}
	return number, e
}

// madeReady is the number of the file that is to be opened, created and truncated in a book, if that is asked.
func madeReady(b *chunk.Book, o api.Op) (int, api.Errno) {
	number, e := found(b, o)
	if e == api.OK && o.Flags&api.FlagTruncate != 0 {
		e = resize(b, number, 0)
	}
	return number, e
}

// found is the number of the file of a path, a new one if that is asked.
func found(b *chunk.Book, o api.Op) (int, api.Errno) {
	if o.Flags&api.FlagCreate == 0 {
		x, e := name.Stat(b.Tree(), o.Path)
		if e == api.OK && x.Dir {
			e = api.EIsDir
		}
		return x.Number, e
	}
	t, number, _, e := name.Create(b.Tree(), o.Path, o.Flags&api.FlagExclusive != 0)
	if e != api.OK {
		return 0, e
	}
	return number, b.Set(t)
}

// resize lets a file have so many bytes.
func resize(b *chunk.Book, number, size int) api.Errno {
	x, e := inode.Get(b.Tree(), number)
	if e != api.OK {
		return e
	}
	if e := file.Truncate(b, number, x.Size, size); e != api.OK {
		return e
	}
	return keepSize(b, x, size)
}

// keepSize lets a file's inode tell its size.
func keepSize(b *chunk.Book, x api.Inode, size int) api.Errno {
	x.Size = size
	t, e := inode.Put(b.Tree(), x)
	if e != api.OK {
		return e
	}
	return b.Set(t)
}

// closeFile lets a descriptor be free, and a file that nothing leads to any more go.
func (f *Fs) closeFile(o api.Op) (api.Result, api.Errno) {
	number, last, e := f.handles.Close(o.Handle)
	if e != api.OK {
		return api.Result{}, e
	}
	if x, e := inode.Get(f.tree(), number); e == api.OK && last && x.Links == 0 {
		f.transact(func(b *chunk.Book) api.Errno { return freeOrphan(b, number) }) // what is refused here a mount will do
	}
	return api.Result{}, api.OK
}

// read tells a file's bytes.
func (f *Fs) read(o api.Op) (api.Result, api.Errno) {
	h, e := f.handles.Get(o.Handle)
	if e != api.OK {
		return api.Result{}, e
	}
	if o.Offset < 0 || o.N < 0 || o.N > api.MaxIO {
		return api.Result{}, api.EInval
	}
	x, e := inode.Get(f.tree(), h.Inode)
	if e != api.OK {
		return api.Result{}, e
	}
	data, e := file.Read(f.vol.Book(), x.Number, x.Size, o.Offset, o.N)
	return api.Result{Data: data}, e
}

// write lays bytes over a file's.
func (f *Fs) write(o api.Op) (api.Result, api.Errno) {
	h, e := f.handles.Get(o.Handle)
	if e != api.OK {
		return api.Result{}, e
	}
	n := len(o.Data)
	if o.Offset < 0 || n > api.MaxIO {
		return api.Result{}, api.EInval
	}
	if n == 0 { // wherever that is: not even the file's end moves
		return api.Result{}, api.OK
	}
	if o.Offset > api.MaxFile-n { // the sum may be beyond an int
		return api.Result{}, api.EFBig
	}
	e = f.change(func(b *chunk.Book) api.Errno { return overwrite(b, h.Inode, o.Offset, o.Data) })
	return api.Result{N: n}, e
}

// overwrite lays bytes over a file's from an offset on.
func overwrite(b *chunk.Book, number, offset int, data string) api.Errno {
	x, e := inode.Get(b.Tree(), number)
	if e != api.OK {
		return e
	}
	size, e := file.Write(b, number, x.Size, offset, data)
	if e != api.OK {
		return e
	}
	return keepSize(b, x, size)
}

// truncate lets a file have so many bytes.
func (f *Fs) truncate(o api.Op) (api.Result, api.Errno) {
	h, e := f.handles.Get(o.Handle)
	if e != api.OK {
		return api.Result{}, e
	}
	if o.N < 0 {
		return api.Result{}, api.EInval
	}
	if o.N > api.MaxFile {
		return api.Result{}, api.EFBig
	}
	return api.Result{}, f.change(func(b *chunk.Book) api.Errno { return resize(b, h.Inode, o.N) })
}
