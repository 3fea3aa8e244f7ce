package name

import (
	"maps"
	"slices"

	"dedup/api"
	"dedup/inode"
	"dedup/tree"
)

// Rename is the tree where a name is another one; and, of a file that stood in its place, its number and links.
func Rename(t *tree.Tree, p, other string) (u *tree.Tree, gone, links int, e api.Errno) {
	from, e := look(t, p, map[kind]api.Errno{theRoot: api.EBusy, itself: api.EBusy, above: api.EBusy, vacant: api.ENoEnt})
	if e != api.OK {
		return nil, 0, 0, e
	}
	to, e := look(t, other, map[kind]api.Errno{theRoot: api.EBusy, itself: api.EBusy, above: api.EBusy})
	if e != api.OK {
		return nil, 0, 0, e
	}
	if from, e = from.known(t); e != api.OK {
		return nil, 0, 0, e
	}
	if e := notBelow(t, from, to); e != api.OK {
		return nil, 0, 0, e
	}
	if to.number == from.number { // which is 0 of a vacant place
		return t, 0, 0, api.OK
	}
	if to, e = to.known(t); e != api.OK {
		return nil, 0, 0, e
	}
	if e := mayReplace(t, from, to); e != api.OK {
		return nil, 0, 0, e
	}
	return renamed(t, from, to)
}

// notBelow refuses to lay a directory into itself, or below.
func notBelow(t *tree.Tree, from, to place) api.Errno {
	if from.kind != aDir {
		return api.OK
	}
	met := map[int]struct{}{} // a tree that is not right may have rings
	number := to.dir.Number
climb:
	for number != from.number {
		_, again := met[number]
		if again || number == root {
			return api.OK
		}
		met[number] = struct{}{}
		x, e := inode.Get(t, number)
		switch e {
		case api.OK:
			number = x.Parent
			continue climb
		case api.ErrNone:
			return api.OK
		}
		return e
	}
	return api.EInval
}

// meeting is what is renamed, and what stands in the new place.
type meeting struct {
	from, to kind
}

// mayReplace tells why something may not take a place, by what stands there.
func mayReplace(t *tree.Tree, from, to place) api.Errno {
	refused := map[meeting]api.Errno{{aDir, aFile}: api.ENotDir, {aFile, aDir}: api.EIsDir}
	if e := refused[meeting{from.kind, to.kind}]; e != api.OK {
		return e
	}
	if to.kind == aDir {
		return mustBeEmpty(t, to.number) // and the directory there gives way to the new one
	}
	if from.kind == aDir && to.dir.Number != from.dir.Number && to.dir.Links >= api.MaxLinks {
		return api.EMLink
	}
	return api.OK
}

// renamed is the tree where what was in a place is in another one.
func renamed(t *tree.Tree, from, to place) (u *tree.Tree, gone, links int, e api.Errno) {
	c := begin(t)
	switch to.kind {
	case aDir:
		c.drop(to.number)
	case aFile:
		x := c.link(to.number, -1)
		gone, links = x.Number, x.Links
	}
	c.leave(from)
	c.enter(to, from.inode)
	if from.kind == aDir {
		c.under(from.inode, to.dir.Number)
	}
	c.linkDirs(from, to)
	if u, e = c.end(); e != api.OK {
		return nil, 0, 0, e
	}
	return u, gone, links, api.OK
}

// linkDirs counts the links of the directories of a rename: each at once, as one that has MaxLinks may lose one and get one.
func (c *change) linkDirs(from, to place) {
	by := map[int]int{}
	if from.kind == aDir {
		by[from.dir.Number]--
		by[to.dir.Number]++
	}
	if to.kind == aDir {
		by[to.dir.Number]--
	}
	for _, number := range slices.Sorted(maps.Keys(by)) {
		c.link(number, by[number])
	}
}
