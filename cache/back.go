package cache

import (
	"cmp"
	"math"
	"slices"

	"dedup/api"
)

// dirtyUpTo is the dirty frames up to an order, sorted by a comparison.
func (c *Cache) dirtyUpTo(order uint64, compare func(a, b *frame) int) []*frame {
	var l []*frame
	for f := range oldestFirst(c.ring) {
		if f.dirty && f.order <= order {
			l = append(l, f)
		}
	}
	slices.SortFunc(l, compare)
	return l
}

// WriteUpTo writes all up to an order.
func (c *Cache) WriteUpTo(order uint64) api.Errno {
	if !c.made() {
		return api.ErrClosed
	}
	inOrder := func(a, b *frame) int {
		return cmp.Or(cmp.Compare(a.order, b.order), cmp.Compare(a.sector, b.sector))
	}
	for _, f := range c.dirtyUpTo(order, inOrder) {
		if e := c.disk.Write(f.sector, f.bytes); e != api.OK {
			return e
		}
		f.dirty, f.order = false, 0
		c.counts.Writes++
	}
	return api.OK
}

// Sync writes all, and flushes the disk.
func (c *Cache) Sync() api.Errno {
	if e := c.WriteUpTo(math.MaxUint64); e != api.OK {
		return e
	}
	c.disk.Flush()
	return api.OK
}

// Drop lets all go that can: how many.
func (c *Cache) Drop() int {
	if !c.made() {
		return 0
	}
	n := 0
	for f := range oldestFirst(c.ring) {
		if !f.dirty && f.pins == 0 {
			c.letGo(f)
			n++
		}
	}
	return n
}

// oldestWithoutPins is the frame that may go; nil, if all have pins.
func (c *Cache) oldestWithoutPins() *frame {
	for f := range oldestFirst(c.ring) {
		if f.pins == 0 {
			return f
		}
	}
	return nil
}

// makeRoom lets a frame go, if there is no room for one more.
func (c *Cache) makeRoom() api.Errno {
	if len(c.frames) < c.room {
		return api.OK
	}
	f := c.oldestWithoutPins()
	if f == nil {
		return api.ErrFull
	}
	if f.dirty {
		if e := c.WriteUpTo(f.order); e != api.OK {
			return e
		}
	}
	c.letGo(f)
	c.counts.Gone++
	return api.OK
}
