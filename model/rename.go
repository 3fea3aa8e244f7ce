package model

import "dedup/api"

// rename gives a thing another name, or another directory.
func (w *World) rename(o api.Op) (api.Result, api.Errno) {
	from, e := w.look(o.Path)
	if e == api.OK {
		e = from.mayLeave()
	}
	if e != api.OK {
		return api.Result{}, e
	}
	to, e := w.look(o.Other)
	if e == api.OK {
		e = w.mayEnter(from, to)
	}
	if e == api.OK && to.number != from.number {
		w.move(from, to)
	}
	return api.Result{}, e
}

// mayLeave tells why nothing may be moved from a place.
func (at place) mayLeave() api.Errno {
	if at.special() {
		return api.EBusy
	}
	if at.number == none {
		return api.ENoEnt
	}
	return api.OK
}

// mayEnter tells why what is in a place may not be moved to another one.
func (w *World) mayEnter(from, to place) api.Errno {
	moved, there, in := w.things[from.number], w.things[to.number], w.things[to.dir]
	switch {
	case to.special():
		return api.EBusy
	case w.above(from.number, to.dir):
		return api.EInval
	case to.number == from.number:
		return api.OK
	case there != nil && moved.isDir() && !there.isDir():
		return api.ENotDir
	case !moved.isDir() && there.isDir():
		return api.EIsDir
	case there.isDir() && len(there.names) > 0:
		return api.ENotEmpty
	case moved.isDir() && !there.isDir() && to.dir != from.dir && in.links >= api.MaxLinks:
		return api.EMLink
	}
	return api.OK
}

// above tells whether a thing is a directory, or one that this lies below.
func (w *World) above(number, dir int) bool {
	for dir != number {
		if dir == root {
			return false
		}
		dir = w.things[dir].parent
	}
	return true
}

// move lets what is in a place be in another one, where nothing else stands then.
func (w *World) move(from, to place) {
	if to.number != none {
		w.drop(to)
	}
	delete(w.things[from.dir].names, from.name)
	w.things[to.dir].names[to.name] = from.number
	if moved := w.things[from.number]; moved.isDir() {
		moved.parent = to.dir
		w.things[from.dir].links--
		w.things[to.dir].links++
	}
}
