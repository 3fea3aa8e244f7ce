package chunk

import (
	"slices"

	"dedup/api"
	"dedup/pack"
	"dedup/tree"
)

// change is one of a book, all of it or nothing: the tree as it becomes, and the first fault on the way. What it does beside that is put off till the end, or taken back there.
type change struct {
	book  *Book
	tree  *tree.Tree
	fault api.Errno
	steps []func()
	undo  []func()
}

// begin is a change that has done nothing yet.
func (b *Book) begin() *change {
	return &change{book: b, tree: b.tree}
}

// end does what was put off; behind a fault it takes back what was done already.
func (c *change) end() api.Errno {
	if c.fault != api.OK {
		for _, back := range slices.Backward(c.undo) {
			back()
		}
		return c.fault
	}
	for _, step := range c.steps {
		step()
	}
	c.book.become(c.tree)
	return api.OK
}

// become lets a book have the tree of a change; what the index knows goes with it.
func (b *Book) become(t *tree.Tree) {
	if b.known == b.tree {
		b.known = t
	}
	b.tree = t
}

// fail keeps the first fault.
func (c *change) fail(e api.Errno) {
	if c.fault == api.OK {
		c.fault = e
	}
}

// to goes on with another tree, unless there is a fault.
func (c *change) to(t *tree.Tree, e api.Errno) {
	c.fail(e)
	if c.fault == api.OK {
		c.tree = t
	}
}

// later puts something off till the end.
func (c *change) later(step func()) {
	c.steps = append(c.steps, step)
}

// back is how something that was done is taken back.
func (c *change) back(step func()) {
	c.undo = append(c.undo, step)
}

// chunk is the chunk of a number.
func (c *change) chunk(id int) api.Chunk {
	x, e := chunkOf(c.tree, id)
	c.fail(e)
	return x
}

// container is the container of a number.
func (c *change) container(id int) api.Container {
	k, e := containerOf(c.tree, id)
	c.fail(e)
	return k
}

// putChunk lets a chunk's record be so.
func (c *change) putChunk(x api.Chunk) {
	c.to(c.tree.Put(recordKey(chunkPrefix, x.Id), chunkText(x)))
}

// putContainer lets a container's record be so.
func (c *change) putContainer(k api.Container) {
	c.to(c.tree.Put(recordKey(containerPrefix, k.Id), containerText(k)))
}

// number is the next one of a counter, which goes on.
func (c *change) number(counter int) int {
	l, e := countersOf(c.tree)
	c.fail(e)
	id := l[counter]
	if id > api.MaxNumber {
		c.fail(api.ErrFull)
	}
	l[counter]++
	c.to(c.tree.Put(prefixKey(counterPrefix), numbersText("", l[:]...)))
	return id
}

// lay lays bytes down, and tells where.
func (c *change) lay(data []byte) (container int, slot api.Slot) {
	container, p := c.roomFor(len(data))
	if c.fault != api.OK {
		return 0, api.Slot{}
	}
	mark := p.Mark()
	slot, e := p.Append(data)
	c.fail(e)
	c.back(func() { p.Back(mark) })
	k := c.container(container)
	k.Slots++
	k.Live++
	c.putContainer(k)
	return container, slot
}

// roomFor is a container with room for so many bytes: the open one, or a new one that will be.
func (c *change) roomFor(n int) (int, *pack.Pack) {
	b := c.book
	if at, ok := b.filled[b.open]; ok && at.pack.Left() >= n {
		return b.open, at.pack
	}
	return c.openNext()
}

// openNext opens a new container in the place of the open one.
func (c *change) openNext() (int, *pack.Pack) {
	b := c.book
	first, e := b.space.Take(b.shape.Pack)
	if e != api.OK {
		c.fail(e)
		return 0, nil
	}
	c.back(func() { b.space.Free(b.area(first)) })
	c.closeOpen()
	id := c.number(containerCounter)
	p, e := pack.New(b.shape.Sector, b.shape.Pack, uint32(id))
	c.fail(e)
	c.putContainer(api.Container{Id: id, First: first})
	c.later(func() {
		b.filled[id] = filled{pack: p, first: first}
		b.open = id
	})
	return id, p
}

// closeOpen closes the open container, if there is one; without a live slot it is let go.
func (c *change) closeOpen() {
	b := c.book
	at, ok := b.filled[b.open]
	if !ok {
		return
	}
	c.later(func() { at.pack.Seal() })
	if k := c.container(b.open); k.Live == 0 {
		c.letGo(k)
	}
}

// letGo lets a container go.
func (c *change) letGo(k api.Container) {
	b := c.book
	c.to(c.tree.Delete(recordKey(containerPrefix, k.Id)))
	c.later(func() {
		b.space.Later(b.area(k.First))
		delete(b.filled, k.Id)
	})
}

// release lets a container have one live slot fewer.
func (c *change) release(id int) {
	k, e := containerOf(c.tree, id)
	if e == api.ErrChunk {
		return // where there is no such container nothing is counted
	}
	c.fail(e)
	k.Live = max(k.Live-1, 0)
	if k.Live == 0 && id != c.book.open {
		c.letGo(k)
		return
	}
	c.putContainer(k)
}
