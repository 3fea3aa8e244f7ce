package tree

import (
	"iter"

	"dedup/api"
	"dedup/node"
)

// nowhere is the sector of a dirty node.
const nowhere = -1

// page is a node that trees share: it is never changed, but that a clean one is read when it is wanted first.
type page struct {
	sector int
	read   bool
	node   api.Node // its Kids are those of kids, if it is clean; else they only count them
	kids   []*page
	dirty  int // nodes from here on down
}

// dirtyPage is a node that lies nowhere yet, with its kids.
func dirtyPage(n api.Node, kids []*page) *page {
	p := &page{sector: nowhere, read: true, node: n, kids: kids, dirty: 1}
	for _, kid := range kids {
		p.dirty += kid.dirty
	}
	return p
}

// innerPage is a dirty inner node of kids and the keys between them.
func innerPage(keys []string, kids []*page) *page {
	return dirtyPage(api.Node{Keys: keys, Kids: make([]int, len(kids))}, kids)
}

// unread is the pages of these sectors.
func unread(sectors []int) []*page {
	pages := make([]*page, len(sectors))
	for i, sector := range sectors {
		pages[i] = &page{sector: sector}
	}
	return pages
}

// fits tells whether a node has room in a sector.
func (t *Tree) fits(p *page) bool {
	return node.Size(p.node) <= t.size
}

// bigEnough tells whether a node may stand alone beside others.
func (t *Tree) bigEnough(p *page) bool {
	return 4*node.Size(p.node) >= t.size
}

// spot is a page in a tree: the keys of its parents that bound it, and how many nodes lie on the way to it. No key is empty: a bound that is, is none.
type spot struct {
	page      *page
	low, high string
	depth     int
}

// top is the root's spot.
func (t *Tree) top() spot {
	return spot{page: t.root, depth: 1}
}

// kid is the spot of a kid of a page that was read.
func (s spot) kid(i int) spot {
	keys := s.page.node.Keys
	k := spot{page: s.page.kids[i], low: s.low, high: s.high, depth: s.depth + 1}
	if i > 0 {
		k.low = keys[i-1]
	}
	if i < len(keys) {
		k.high = keys[i]
	}
	return k
}

// bounds tells whether a node's keys are such as belong here.
func (s spot) bounds(n api.Node) bool {
	if len(n.Keys) == 0 {
		return true
	}
	first, last := n.Keys[0], n.Keys[len(n.Keys)-1]
	if s.high != "" && last >= s.high {
		return false
	}
	return first > s.low || n.Leaf && first == s.low
}

// outside tells whether all keys that belong here are below from, or to or above.
func (s spot) outside(from, to string) bool {
	return s.high != "" && s.high <= from || to != "" && s.low >= to
}

// look reads a page that was not wanted before: ErrTree, if it is not in its place.
func (t *Tree) look(s spot) api.Errno {
	if p := s.page; !p.read {
		n, e := t.fetch(p.sector)
		if e != api.OK {
			return e
		}
		p.node, p.kids, p.read = n, unread(n.Kids), true
	}
	if !s.bounds(s.page.node) {
		return api.ErrTree
	}
	return api.OK
}

// fetch is the node that a sector of the source has.
func (t *Tree) fetch(sector int) (api.Node, api.Errno) {
	b, e := sectorOf(t.source, sector)
	if e != api.OK {
		return api.Node{}, api.ErrTree
	}
	n, e := node.Decode(t.size, b)
	if e != api.OK {
		return api.Node{}, api.ErrTree
	}
	return n, api.OK
}

// sectorOf is what a source tells of a sector. A source may be anybody's: one that panics refuses.
func sectorOf(r Reader, sector int) (b []byte, e api.Errno) {
	defer func() {
		if recover() != nil {
			b, e = nil, api.ErrIO
		}
	}()
	return r.Read(sector)
}

// spots goes over the root and all below it that may have keys from from on and below to, parents first, from left to right. The first one that is not in its place is told with ErrTree, and ends it.
func (t *Tree) spots(from, to string) iter.Seq2[spot, api.Errno] {
	return func(yield func(spot, api.Errno) bool) {
		var over func(s spot) bool
		over = func(s spot) bool {
			e := t.look(s)
			if !yield(s, e) || e != api.OK {
				return false
			}
			for i := range s.page.kids {
				if kid := s.kid(i); !kid.outside(from, to) && !over(kid) {
					return false
				}
			}
			return true
		}
		over(t.top())
	}
}
