package vol

import (
	"maps"
	"slices"

	"dedup/api"
	"dedup/journal"
	"dedup/layout"
	"dedup/space"
	"dedup/tree"
)

// write writes a group of sectors, if there are any, and lets it last.
func (v *Vol) write(group []api.Sector) api.Errno {
	if len(group) == 0 {
		return api.OK
	}
	v.order++
	for _, s := range group {
		if e := v.cache.Put(s.N, s.Bytes, v.order); e != api.OK {
			return e
		}
	}
	return v.cache.Sync()
}

// Sync lets all that was committed last.
func (v *Vol) Sync() api.Errno {
	if !v.made() {
		return api.ErrClosed
	}
	group, records := v.book.Take(), v.journal.Take()
	if len(records) > 1 { // of one sector a crash leaves all or nothing, so that no state between is found
		group = append(group, v.left...)
	}
	v.left = nil
	for i := range records {
		records[i].N += layout.Journal(v.super.Shape).First
	}
	if e := v.write(group); e != api.OK {
		return e
	}
	return v.write(records)
}

// Checkpoint writes the tree anew where it changed, and a new superblock; false, if there is nothing to do.
func (v *Vol) Checkpoint() (bool, api.Errno) {
	if !v.made() {
		return false, api.ErrClosed
	}
	group := v.book.Take() // if there are none the book is as it was
	changed := len(group) > 0 || v.book.Tree().Dirty() > 0 || v.journal.Records() > 0 || v.book.Space().Waiting() > 0
	if !changed {
		return false, api.OK
	}
	e := v.checkpoint(group)
	return e == api.OK, e
}

// checkpoint does one, with the sectors that were taken from the book. Beside an error nothing is written but these.
func (v *Vol) checkpoint(group []api.Sector) api.Errno {
	if e := v.write(group); e != api.OK {
		return e
	}
	t, nodes, e := v.placed()
	if e != api.OK {
		return e
	}
	next, slot, e := v.nextBase(t)
	if e != api.OK {
		return e
	}
	if e := v.write(nodes); e != api.OK {
		return e
	}
	if e := v.write([]api.Sector{slot}); e != api.OK {
		return e
	}
	v.goOn(next)
	return v.book.Set(t)
}

// placed is the present tree with all nodes clean, and the sectors of those that were not.
func (v *Vol) placed() (*tree.Tree, []api.Sector, api.Errno) {
	t := v.book.Tree()
	l, e := v.sectorsFor(t.Dirty())
	if e != api.OK {
		return nil, nil, e
	}
	return t.Place(l)
}

// sectorsFor is so many sectors for nodes. They are taken of a Fork: what is not written to in the end stays free.
func (v *Vol) sectorsFor(n int) ([]int, api.Errno) {
	sp := v.book.Space().Fork()
	if v.begun != nil {
		if both := together(sp, v.begun.book.Space()); both.Left() >= n {
			sp = both
		}
	}
	var l []int
	for range n {
		sector, e := sp.Take(1)
		if e != api.OK {
			return nil, e
		}
		l = append(l, sector)
	}
	return l, api.OK
}

// together is a space in which what another one has is not free either: a transaction that is committed behind a checkpoint needs the sectors that it took ahead of it.
func together(sp, other *space.Space) *space.Space {
	both := sp.Fork()
	for run := range sp.Runs() {
		for i := range run.Count {
			if other.Has(run.First + i) {
				both.Mark(one(run.First + i))
			}
		}
	}
	return both
}

// nextBase is the next generation's, with a tree all of whose nodes are clean, and the sector of its superblock.
func (v *Vol) nextBase(t *tree.Tree) (base, api.Sector, api.Errno) {
	generation, slot, e := layout.Next(v.super)
	if e != api.OK {
		return base{}, api.Sector{}, e
	}
	s := v.super.Shape
	next := base{super: api.Super{Generation: generation, Root: t.Root(), Shape: s}}
	b, e := layout.EncodeSuper(next.super)
	if e != api.OK {
		return base{}, api.Sector{}, e
	}
	if next.nodes, e = nodesOf(t); e != api.OK {
		return base{}, api.Sector{}, e
	}
	next.journal, e = journal.New(s.Sector, s.Journal, generation)
	return next, api.Sector{N: slot, Bytes: b}, e
}

// goOn lets what was written be the volume's base; what only the one ahead of it wanted is free.
func (v *Vol) goOn(next base) {
	sp := v.book.Space()
	relocate(sp, v.nodes, next.nodes)
	sp.Settle()
	if v.begun != nil && !relocate(v.begun.book.Space(), v.nodes, next.nodes) {
		v.begun.lost = true
	}
	v.base, v.left = next, nil
}

// nodesOf is the sectors of a tree's nodes.
func nodesOf(t *tree.Tree) (sectors, api.Errno) {
	l, e := t.Sectors()
	if e != api.OK {
		return nil, e
	}
	nodes := sectors{}
	for _, sector := range l {
		nodes[sector] = struct{}{}
	}
	return nodes, api.OK
}

// relocate lets a space know that nodes lie elsewhere now; false, if something else lies there.
func relocate(sp *space.Space, was, now sectors) bool {
	for sector := range was {
		if _, still := now[sector]; !still {
			sp.Free(one(sector))
		}
	}
	all := true
	for _, sector := range slices.Sorted(maps.Keys(now)) {
		if _, already := was[sector]; !already && sp.Mark(one(sector)) != api.OK {
			all = false
		}
	}
	return all
}
