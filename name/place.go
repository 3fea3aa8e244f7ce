package name

import (
	"dedup/api"
	"dedup/dir"
	"dedup/inode"
	"dedup/path"
	"dedup/tree"
)

// root is the number of the root.
const root = 1

// The parts of a path that are no names.
const (
	dot  = "."
	dots = ".."
)

// kind is what may stand in a place.
type kind int

const (
	vacant  kind = iota // no entry
	taken               // an entry whose inode was not looked at
	aFile               // an entry of a file
	aDir                // an entry of a directory
	theRoot             // the path has no part
	itself              // its last part is .
	above               // its last part is ..
)

// place is where a path's last part belongs, and what stands there.
type place struct {
	dir    api.Inode // where the parts but the last one lead
	name   string
	kind   kind
	number int       // the entry's, if there is one
	inode  api.Inode // the entry's, if it was looked at
}

// told is what lower layers refuse, as it is told here: a way to what is not there leads nowhere.
func told(e api.Errno) api.Errno {
	if e == api.ErrNone {
		return api.ENoEnt
	}
	return e
}

// inodeOf is the inode of a number.
func inodeOf(t *tree.Tree, number int) (api.Inode, api.Errno) {
	x, e := inode.Get(t, number)
	return x, told(e)
}

// next is where a part leads that is no dot, from a directory on.
func next(t *tree.Tree, from api.Inode, part string) (api.Inode, api.Errno) {
	if part == dots {
		return inodeOf(t, from.Parent)
	}
	number, _, e := dir.Get(t, from.Number, part)
	if e != api.OK {
		return api.Inode{}, told(e)
	}
	return inodeOf(t, number)
}

// walk is where parts lead from the root on.
func walk(t *tree.Tree, parts []string) (api.Inode, api.Errno) {
	at, e := inodeOf(t, root)
parts:
	for _, part := range parts {
		switch {
		case e != api.OK:
			break parts
		case !at.Dir:
			return api.Inode{}, api.ENotDir
		case part == dot:
			continue parts
		}
		at, e = next(t, at, part)
	}
	return at, e
}

// walkPath is where a path leads.
func walkPath(t *tree.Tree, p string) (api.Inode, api.Errno) {
	if t == nil {
		return api.Inode{}, api.ErrClosed
	}
	parts, e := path.Split(p)
	if e != api.OK {
		return api.Inode{}, e
	}
	return walk(t, parts)
}

// look is the place of a path's last part: why it is refused, by what stands there, the map tells.
func look(t *tree.Tree, p string, refused map[kind]api.Errno) (place, api.Errno) {
	if t == nil {
		return place{}, api.ErrClosed
	}
	parts, e := path.Split(p)
	if e != api.OK {
		return place{}, e
	}
	ahead, last := parts, ""
	if n := len(parts); n > 0 {
		ahead, last = parts[:n-1], parts[n-1]
	}
	in, e := walk(t, ahead)
	if e != api.OK {
		return place{}, e
	}
	if !in.Dir {
		return place{}, api.ENotDir
	}
	at, e := placeOf(t, in, last)
	if e == api.OK {
		e = refused[at.kind]
	}
	if e != api.OK {
		return place{}, e
	}
	return at, api.OK
}

// placeOf is the place of a path's last part, or of none, in a directory.
func placeOf(t *tree.Tree, in api.Inode, last string) (place, api.Errno) {
	at := place{dir: in, name: last}
	kinds := map[string]kind{"": theRoot, dot: itself, dots: above}
	if special, is := kinds[last]; is {
		at.kind = special
		return at, api.OK
	}
	number, _, e := dir.Get(t, in.Number, last)
	switch e {
	case api.OK:
		at.kind, at.number = taken, number
	case api.ErrNone: // at is vacant
	default:
		return place{}, e
	}
	return at, api.OK
}

// known is a place whose entry's inode was looked at, if there is one.
func (at place) known(t *tree.Tree) (place, api.Errno) {
	if at.kind != taken {
		return at, api.OK
	}
	x, e := inodeOf(t, at.number)
	if e != api.OK {
		return place{}, e
	}
	at.inode, at.kind = x, aFile
	if x.Dir {
		at.kind = aDir
	}
	return at, api.OK
}

// lookInto is look, and what stands there is known.
func lookInto(t *tree.Tree, p string, refused map[kind]api.Errno) (place, api.Errno) {
	at, e := look(t, p, refused)
	if e != api.OK {
		return place{}, e
	}
	at, e = at.known(t)
	if e == api.OK {
		e = refused[at.kind]
	}
	if e != api.OK {
		return place{}, e
	}
	return at, api.OK
}

// occupied refuses all places but a vacant one.
func occupied() map[kind]api.Errno {
	return map[kind]api.Errno{theRoot: api.EExist, itself: api.EExist, above: api.EExist, taken: api.EExist}
}
