package model

import (
	"slices"
	"strings"

	"dedup/api"
)

// openFile opens the least free descriptor.
func (w *World) openFile(o api.Op) (api.Result, api.Errno) {
	if o.Flags < 0 || o.Flags > api.FlagCreate|api.FlagExclusive|api.FlagTruncate {
		return api.Result{}, api.EInval
	}
	handle := slices.Index(w.open[:], none)
	if handle < 0 {
		return api.Result{}, api.EMFile
	}
	number, e := w.fileToOpen(o)
	if e != api.OK {
		return api.Result{}, e
	}
	if o.Flags&api.FlagTruncate != 0 {
		w.things[number].data = ""
	}
	w.open[handle] = number
	return api.Result{Handle: handle}, api.OK
}

// fileToOpen is the number of the file that is to be opened, a new one if that is asked.
func (w *World) fileToOpen(o api.Op) (int, api.Errno) {
	if o.Flags&api.FlagCreate != 0 {
		return w.create(o.Path, o.Flags&api.FlagExclusive != 0)
	}
	number, e := w.walkPath(o.Path)
	if e == api.OK && w.things[number].isDir() {
		return none, api.EIsDir
	}
	return number, e
}

// opened is the file that a descriptor is open on.
func (w *World) opened(handle int) (*thing, api.Errno) {
	if handle < 0 || handle >= len(w.open) || w.open[handle] == none {
		return nil, api.EBadF
	}
	return w.things[w.open[handle]], api.OK
}

// letGo takes a thing away, if it is gone.
func (w *World) letGo(number int) {
	if w.things[number].links == 0 && !slices.Contains(w.open[:], number) {
		delete(w.things, number)
	}
}

// closeAll lets all descriptors be free.
func (w *World) closeAll() {
	clear(w.open[:])
	for number := range w.things {
		w.letGo(number)
	}
}

// closeFile lets a descriptor be free.
func (w *World) closeFile(o api.Op) (api.Result, api.Errno) {
	if _, e := w.opened(o.Handle); e != api.OK {
		return api.Result{}, e
	}
	number := w.open[o.Handle]
	w.open[o.Handle] = none
	w.letGo(number)
	return api.Result{}, api.OK
}

// read tells a file's bytes.
func (w *World) read(o api.Op) (api.Result, api.Errno) {
	f, e := w.opened(o.Handle)
	if e != api.OK {
		return api.Result{}, e
	}
	if o.Offset < 0 || o.N < 0 || o.N > api.MaxIO {
		return api.Result{}, api.EInval
	}
	from := min(o.Offset, len(f.data))
	end := min(from+o.N, len(f.data))
	return api.Result{Data: f.data[from:end]}, api.OK
}

// write lays bytes over a file's.
func (w *World) write(o api.Op) (api.Result, api.Errno) {
	f, e := w.opened(o.Handle)
	if e != api.OK {
		return api.Result{}, e
	}
	n := len(o.Data)
	if o.Offset < 0 || n > api.MaxIO {
		return api.Result{}, api.EInval
	}
	if n == 0 { // wherever that is: not even the file's end moves
		return api.Result{}, api.OK
	}
	if o.Offset > api.MaxFile-n { // the sum may be beyond an int
		return api.Result{}, api.EFBig
	}
	end := min(o.Offset+n, len(f.data))
	f.data = sized(f.data, o.Offset) + o.Data + f.data[end:]
	return api.Result{N: n}, api.OK
}

// sized is so many bytes: a text's first ones, and 0.
func sized(s string, n int) string {
	if n <= len(s) {
		return s[:n]
	}
	return s + strings.Repeat("\x00", n-len(s))
}

// truncate lets a file have so many bytes.
func (w *World) truncate(o api.Op) (api.Result, api.Errno) {
	f, e := w.opened(o.Handle)
	if e != api.OK {
		return api.Result{}, e
	}
	if o.N < 0 {
		return api.Result{}, api.EInval
	}
	if o.N > api.MaxFile {
		return api.Result{}, api.EFBig
	}
	f.data = sized(f.data, o.N)
	return api.Result{}, api.OK
}

// fsync asks whether a descriptor is open: in memory all lasts.
func (w *World) fsync(o api.Op) (api.Result, api.Errno) {
	_, e := w.opened(o.Handle)
	return api.Result{}, e
}
