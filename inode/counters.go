package inode

import (
	"dedup/api"
	"dedup/codec"
	"dedup/tree"
)

// counters is the next numbers.
type counters struct {
	inode, chunk, container int
}

// mayNext tells whether a number may be the next one: behind the last one none is left.
func mayNext(n int) bool {
	return n >= 1 && n <= api.MaxNumber+1
}

// may tells whether all of them may be.
func (c counters) may() bool {
	return mayNext(c.inode) && mayNext(c.chunk) && mayNext(c.container)
}

// put is the tree with these counters.
func (c counters) put(t *tree.Tree) (*tree.Tree, api.Errno) {
	w := codec.NewWriter(mostText)
	w.U32(uint32(c.inode))
	w.U32(uint32(c.chunk))
	w.U32(uint32(c.container))
	text, _ := w.Done()
	return t.Put(prefixKey(counterPrefix), text)
}

// countersOf is a tree's counters: ErrInode, if what lies there is none.
func countersOf(t *tree.Tree) (counters, api.Errno) {
	value, there, e := t.Get(prefixKey(counterPrefix))
	if e != api.OK {
		return counters{}, e
	}
	if !there {
		return counters{inode: 1, chunk: 1, container: 1}, api.OK
	}
	r := codec.NewReader(value)
	c := counters{inode: int(r.U32()), chunk: int(r.U32()), container: int(r.U32())}
	if r.Done() != api.OK || !c.may() {
		return counters{}, api.ErrInode
	}
	return c, api.OK
}
