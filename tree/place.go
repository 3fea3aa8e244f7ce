package tree

import (
	"dedup/api"
	"dedup/node"
)

// Place is the tree with all nodes clean, and what is to be written to the sectors.
func (t *Tree) Place(sectors []int) (*Tree, []api.Sector, api.Errno) {
	if !t.made() {
		return nil, nil, api.ErrClosed
	}
	if len(sectors) != t.Dirty() || !maySectors(sectors) {
		return nil, nil, api.ErrArg
	}
	l := laying{size: t.size, sectors: sectors}
	root := l.clean(t.root)
	return &Tree{size: t.size, source: t.source, root: root}, l.laid, api.OK
}

// maySectors tells whether nodes may lie in all of these sectors.
func maySectors(sectors []int) bool {
	for _, sector := range sectors {
		if !maySector(sector) {
			return false
		}
	}
	return true
}

// laying is dirty nodes that lie down, one behind the other.
type laying struct {
	size    int
	sectors []int
	laid    []api.Sector
}

// clean is a page that lies down behind those below it; one that is clean already stays.
func (l *laying) clean(p *page) *page {
	if p.dirty == 0 {
		return p
	}
	n := p.node
	n.Kids = make([]int, len(p.kids))
	kids := make([]*page, len(p.kids))
	for i, kid := range p.kids {
		kids[i] = l.clean(kid)
		n.Kids[i] = kids[i].sector
	}
	sector := l.sectors[len(l.laid)]
	b, _ := node.Encode(l.size, n) // each node of a tree may be, and fits
	l.laid = append(l.laid, api.Sector{N: sector, Bytes: b})
	return &page{sector: sector, read: true, node: n, kids: kids}
}
