package model

import (
	"maps"
	"slices"

	"dedup/api"
	"dedup/path"
)

// The parts of a path that are no names.
const (
	dot  = "."
	dots = ".."
)

// place is where a path's last part belongs.
type place struct {
	dir    int    // where the parts but the last one lead
	name   string // empty, if there is no part
	number int    // what the entry of that name is; none, if there is no such entry
}

// special tells whether its last part is no name.
func (at place) special() bool {
	return at.name == "" || at.name == dot || at.name == dots
}

// walk is where parts lead from the root on.
func (w *World) walk(parts []string) (int, api.Errno) {
	at := root
	for _, part := range parts {
		if !w.things[at].isDir() {
			return none, api.ENotDir
		}
		switch part {
		case dot:
		case dots:
			at = w.things[at].parent
		default:
			at = w.things[at].names[part]
		}
		if at == none {
			return none, api.ENoEnt
		}
	}
	return at, api.OK
}

// walkPath is where a path leads.
func (w *World) walkPath(p string) (int, api.Errno) {
	parts, e := path.Split(p)
	if e != api.OK {
		return none, e
	}
	return w.walk(parts)
}

// look is the place of a path's last part.
func (w *World) look(p string) (place, api.Errno) {
	parts, e := path.Split(p)
	if e != api.OK {
		return place{}, e
	}
	if len(parts) == 0 {
		return place{dir: root}, api.OK
	}
	last := len(parts) - 1
	dir, e := w.walk(parts[:last])
	if e != api.OK {
		return place{}, e
	}
	if !w.things[dir].isDir() {
		return place{}, api.ENotDir
	}
	name := parts[last]
	return place{dir, name, w.things[dir].names[name]}, api.OK
}

// lookVacant is the place of a path's last part, where nothing stands yet.
func (w *World) lookVacant(p string) (place, api.Errno) {
	at, e := w.look(p)
	if e != api.OK {
		return place{}, e
	}
	if at.special() || at.number != none {
		return place{}, api.EExist
	}
	return at, api.OK
}

// add puts a new thing into a place: its number.
func (w *World) add(at place, t *thing) int {
	number := w.next
	w.next++
	w.things[number] = t
	w.things[at.dir].names[at.name] = number
	return number
}

// drop takes what stands in a place away from there.
func (w *World) drop(at place) {
	t := w.things[at.number]
	delete(w.things[at.dir].names, at.name)
	if t.isDir() {
		delete(w.things, at.number)
		w.things[at.dir].links--
		return
	}
	t.links--
	w.letGo(at.number)
}

// create is the number of a path's file, a new one if there is none.
func (w *World) create(p string, exclusive bool) (int, api.Errno) {
	at, e := w.look(p)
	switch {
	case e != api.OK:
		return none, e
	case exclusive && (at.special() || at.number != none):
		return none, api.EExist
	case at.special() || w.things[at.number].isDir():
		return none, api.EIsDir
	case at.number == none:
		return w.add(at, &thing{links: 1}), api.OK
	}
	return at.number, api.OK
}

// tellStat tells what a path leads to.
func (w *World) tellStat(o api.Op) (api.Result, api.Errno) {
	number, e := w.walkPath(o.Path)
	if e != api.OK {
		return api.Result{}, e
	}
	return api.Result{Stat: w.stat(number)}, api.OK
}

// list tells a directory's names.
func (w *World) list(o api.Op) (api.Result, api.Errno) {
	number, e := w.walkPath(o.Path)
	if e != api.OK {
		return api.Result{}, e
	}
	t := w.things[number]
	if !t.isDir() {
		return api.Result{}, api.ENotDir
	}
	return api.Result{Names: slices.Sorted(maps.Keys(t.names))}, api.OK
}

// mkdir makes a directory.
func (w *World) mkdir(o api.Op) (api.Result, api.Errno) {
	at, e := w.lookVacant(o.Path)
	if e != api.OK {
		return api.Result{}, e
	}
	in := w.things[at.dir]
	if in.links >= api.MaxLinks {
		return api.Result{}, api.EMLink
	}
	w.add(at, newDir(at.dir))
	in.links++
	return api.Result{}, api.OK
}

// rmdir takes an empty directory away.
func (w *World) rmdir(o api.Op) (api.Result, api.Errno) {
	at, e := w.look(o.Path)
	if e == api.OK {
		e = w.mayRmdir(at)
	}
	if e == api.OK {
		w.drop(at)
	}
	return api.Result{}, e
}

// mayRmdir tells why no directory may be taken away from a place.
func (w *World) mayRmdir(at place) api.Errno {
	t := w.things[at.number]
	switch {
	case at.name == "":
		return api.EBusy
	case at.name == dot:
		return api.EInval
	case at.name == dots:
		return api.ENotEmpty
	case at.number == none:
		return api.ENoEnt
	case !t.isDir():
		return api.ENotDir
	case len(t.names) > 0:
		return api.ENotEmpty
	}
	return api.OK
}

// link gives a file one name more.
func (w *World) link(o api.Op) (api.Result, api.Errno) {
	number, e := w.walkPath(o.Path)
	if e != api.OK {
		return api.Result{}, e
	}
	t := w.things[number]
	if t.isDir() {
		return api.Result{}, api.EPerm
	}
	at, e := w.lookVacant(o.Other)
	if e != api.OK {
		return api.Result{}, e
	}
	if t.links >= api.MaxLinks {
		return api.Result{}, api.EMLink
	}
	w.things[at.dir].names[at.name] = number
	t.links++
	return api.Result{}, api.OK
}

// unlink takes a file's name away.
func (w *World) unlink(o api.Op) (api.Result, api.Errno) {
	at, e := w.look(o.Path)
	switch {
	case e != api.OK:
	case at.special():
		e = api.EIsDir
	case at.number == none:
		e = api.ENoEnt
	case w.things[at.number].isDir():
		e = api.EIsDir
	default:
		w.drop(at)
	}
	return api.Result{}, e
}
