package chunk

import "dedup/api"

// edges is how many bytes of a container a chunk can't have: the head's, the footer's, and those ahead of the chunk.
const edges = 40

// mayData tells whether bytes may be a chunk.
func (b *Book) mayData(data []byte) bool {
	return len(data) > 0 && len(data) <= b.shape.Pack*b.shape.Sector-edges
}

// Put is the number of a chunk with these bytes, which is referred to once more.
func (b *Book) Put(data []byte) (int, api.Errno) {
	if !b.made() {
		return 0, api.ErrClosed
	}
	if !b.mayData(data) {
		return 0, api.ErrArg
	}
	index, e := b.learned()
	if e != api.OK {
		return 0, e
	}
	c := b.begin()
	c.later(func() { b.index, b.known = index, b.tree })
	sum := b.sumOf(data)
	x, found := b.twin(index, sum, data)
	if found {
		c.refer(x)
	} else {
		x = c.add(sum, data)
	}
	if e := c.end(); e != api.OK {
		return 0, e
	}
	return x.Id, api.OK
}

// refer lets a chunk be referred to once more.
func (c *change) refer(x api.Chunk) {
	if x.Refs == api.MaxNumber {
		c.fail(api.ErrFull)
	}
	x.Refs++
	c.putChunk(x)
}

// add is a new chunk, which is laid down.
func (c *change) add(sum [sumSize]byte, data []byte) api.Chunk {
	container, slot := c.lay(data)
	x := api.Chunk{Container: container, Offset: slot.Offset, Length: slot.Length, Refs: 1, Sum: sum}
	x.Id = c.number(chunkCounter)
	c.putChunk(x)
	c.later(func() { c.book.index.Put(indexKey(sum, x.Id), "") })
	return x
}

// Incr lets a chunk be referred to once more.
func (b *Book) Incr(id int) api.Errno {
	if !b.made() {
		return api.ErrClosed
	}
	c := b.begin()
	c.refer(c.chunk(id))
	return c.end()
}

// Decr lets a chunk be referred to once less; one that is not any more is gone.
func (b *Book) Decr(id int) api.Errno {
	if !b.made() {
		return api.ErrClosed
	}
	c := b.begin()
	x := c.chunk(id)
	x.Refs--
	if x.Refs > 0 {
		c.putChunk(x)
		return c.end()
	}
	c.to(c.tree.Delete(recordKey(chunkPrefix, id)))
	c.release(x.Container)
	c.later(func() {
		if b.known == b.tree {
			b.index.Delete(indexKey(x.Sum, x.Id))
		}
	})
	return c.end()
}

// Move lays a chunk into the open container, unless it lies there.
func (b *Book) Move(id int) api.Errno {
	if !b.made() {
		return api.ErrClosed
	}
	data, e := b.Get(id)
	if e != api.OK {
		return e
	}
	c := b.begin()
	x := c.chunk(id)
	if x.Container == b.open {
		return api.OK
	}
	old := x.Container
	container, slot := c.lay(data)
	x.Container, x.Offset, x.Length = container, slot.Offset, slot.Length
	c.putChunk(x)
	c.release(old)
	return c.end()
}

// Drop lets a container without a live chunk go.
func (b *Book) Drop(id int) api.Errno {
	if !b.made() {
		return api.ErrClosed
	}
	c := b.begin()
	k := c.container(id)
	if id == b.open || k.Live > 0 {
		c.fail(api.ErrChunk)
	}
	c.letGo(k)
	return c.end()
}
