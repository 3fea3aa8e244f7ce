package tree

import (
	"slices"

	"dedup/api"
	"dedup/node"
)

// edit is what a change does to a leaf, and whether that is another one then.
type edit func(leaf api.Node) (api.Node, bool)

// Put is the tree with a key and its value.
func (t *Tree) Put(key, value string) (*Tree, api.Errno) {
	if !t.made() {
		return nil, api.ErrClosed
	}
	// What may not be in an empty leaf may be in none.
	if _, e := node.Put(api.Node{Leaf: true}, key, value); e != api.OK {
		return nil, e
	}
	return t.changed(key, func(leaf api.Node) (api.Node, bool) {
		if place, there := node.Find(leaf, key); there && leaf.Values[place] == value {
			return leaf, false
		}
		with, e := node.Put(leaf, key, value)
		return with, e == api.OK
	})
}

// Delete is the tree without a key.
func (t *Tree) Delete(key string) (*Tree, api.Errno) {
	if !t.made() {
		return nil, api.ErrClosed
	}
	return t.changed(key, func(leaf api.Node) (api.Node, bool) {
		return node.Remove(leaf, key)
	})
}

// changed is the tree with another leaf where a key belongs; the same one, if the leaf stays.
func (t *Tree) changed(key string, change edit) (*Tree, api.Errno) {
	root, e := t.copied(t.top(), key, change)
	if e != api.OK {
		return nil, e
	}
	if root == nil {
		return t, api.OK
	}
	return &Tree{size: t.size, source: t.source, root: t.settled(root)}, api.OK
}

// copied is a copy of a page with another leaf below it, which was not looked at yet; nil, if the leaf stays.
func (t *Tree) copied(s spot, key string, change edit) (*page, api.Errno) {
	if e := t.look(s); e != api.OK {
		return nil, e
	}
	n := s.page.node
	if n.Leaf {
		if leaf, other := change(n); other {
			return dirtyPage(leaf, nil), api.OK
		}
		return nil, api.OK
	}
	place, _ := node.Find(n, key)
	kid, e := t.copied(s.kid(place), key, change)
	if e != api.OK || kid == nil {
		return nil, e
	}
	return t.withKid(s, place, kid)
}

// withKid is a copy of a page with a changed kid in the place of an old one; the kid is looked at, and split or joined.
func (t *Tree) withKid(s spot, place int, kid *page) (*page, api.Errno) {
	if t.bigEnough(kid) { // as one is that does not fit
		return s.page.replaced(place, 1, t.fitting(kid)), api.OK
	}
	first := min(place, len(s.page.kids)-2) // of the two that are joined
	joined, e := t.joined(s, first, place, kid)
	if e != api.OK {
		return nil, e
	}
	return s.page.replaced(first, 2, t.fitting(joined)), api.OK
}

// joined is the kids first and first + 1 of a page as one, of which that at place was changed.
func (t *Tree) joined(s spot, first, place int, kid *page) (*page, api.Errno) {
	other := s.kid(2*first + 1 - place)
	if e := t.look(other); e != api.OK {
		return nil, e
	}
	left, right := kid, other.page
	if first < place {
		left, right = right, left
	}
	n, e := node.Join(left.node, s.page.node.Keys[first], right.node)
	if e != api.OK {
		return nil, api.ErrTree
	}
	return dirtyPage(n, slices.Concat(left.kids, right.kids)), api.OK
}

// part is neighbouring kids, and the keys between them.
type part struct {
	keys  []string
	pages []*page
}

// fitting is a page alone, or its halves, if it does not fit.
func (t *Tree) fitting(p *page) part {
	if t.fits(p) {
		return part{pages: []*page{p}}
	}
	left, key, right, _ := node.Split(p.node) // what does not fit has keys enough
	ahead := len(left.Kids)
	return part{
		keys:  []string{key},
		pages: []*page{dirtyPage(left, p.kids[:ahead]), dirtyPage(right, p.kids[ahead:])},
	}
}

// replaced is a copy of an inner page with other ones in the place of some kids, from first on.
func (p *page) replaced(first, count int, by part) *page {
	keys := slices.Replace(slices.Clone(p.node.Keys), first, first+count-1, by.keys...)
	kids := slices.Replace(slices.Clone(p.kids), first, first+count, by.pages...)
	return innerPage(keys, kids)
}

// settled is the root of a tree whose root was changed: one above it, if it is split; its only kid, if it has no key.
func (t *Tree) settled(root *page) *page {
	if halves := t.fitting(root); len(halves.pages) > 1 {
		return innerPage(halves.keys, halves.pages)
	}
	if len(root.kids) == 1 {
		return root.kids[0]
	}
	return root
}
