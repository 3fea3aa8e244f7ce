package name

import (
	"dedup/api"
	"dedup/dir"
	"dedup/inode"
	"dedup/tree"
)

// change is a tree as it becomes, step by step, and the first fault on the way. Behind one there is no tree, and what further steps tell is passed over.
type change struct {
	tree  *tree.Tree
	fault api.Errno
}

// begin is a change that has done nothing yet.
func begin(t *tree.Tree) *change {
	return &change{tree: t}
}

// end is the tree that was made.
func (c *change) end() (*tree.Tree, api.Errno) {
	return c.tree, c.fault
}

// to goes on with another tree.
func (c *change) to(t *tree.Tree, e api.Errno) {
	if c.fault == api.OK {
		c.tree, c.fault = t, e
	}
}

// add makes an inode with so many links.
func (c *change) add(isDir bool, parent, links int) api.Inode {
	t, x, e := inode.New(c.tree, isDir, parent)
	c.to(t, e)
	return c.link(x.Number, links)
}

// link gives an inode so many links more.
func (c *change) link(number, by int) api.Inode {
	t, x, e := inode.Link(c.tree, number, by)
	c.to(t, e)
	return x
}

// enter lets a place's entry name an inode.
func (c *change) enter(at place, x api.Inode) {
	c.to(dir.Put(c.tree, at.dir.Number, at.name, x.Number, x.Dir))
}

// leave takes a place's entry away.
func (c *change) leave(at place) {
	c.to(dir.Remove(c.tree, at.dir.Number, at.name))
}

// drop takes an inode away.
func (c *change) drop(number int) {
	c.to(inode.Remove(c.tree, number))
}

// under lets a directory have another parent.
func (c *change) under(x api.Inode, parent int) {
	x.Parent = parent
	c.to(inode.Put(c.tree, x))
}
