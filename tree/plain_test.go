package tree_test

import (
	"maps"
	"math/rand"
	"slices"

	"dedup/api"
	"dedup/node"
)

// shelf is a source of sectors that counts how often each one is read.
type shelf struct {
	sectors map[int][]byte
	reads   map[int]int
}

// newShelf has nothing.
func newShelf() *shelf {
	return &shelf{sectors: map[int][]byte{}, reads: map[int]int{}}
}

// Read tells a sector's bytes.
func (s *shelf) Read(n int) ([]byte, api.Errno) {
	s.reads[n]++
	b, ok := s.sectors[n]
	if !ok {
		return nil, api.ErrSector
	}
	return slices.Clone(b), api.OK
}

// write lays sectors down.
func (s *shelf) write(l []api.Sector) {
	for _, x := range l {
		s.sectors[x.N] = x.Bytes
	}
}

// lay lays a node down.
func (s *shelf) lay(size, n int, x api.Node) {
	b, e := node.Encode(size, x)
	if e != api.OK {
		panic("a node that may not be")
	}
	s.sectors[n] = b
}

// copied is a shelf with the same sectors.
func (s *shelf) copied() *shelf {
	other := newShelf()
	for n, b := range s.sectors {
		other.sectors[n] = slices.Clone(b)
	}
	return other
}

// plain is a tree by the chapter's words, as slow as they are: nodes by their numbers, which are the sector of a clean one and below 0 of a dirty one.
type plain struct {
	size  int
	root  int
	on    *shelf
	dirty map[int]api.Node
}

// plainNew has no keys.
func plainNew(size int) plain {
	return plain{size: size, root: -1, on: newShelf(), dirty: map[int]api.Node{-1: {Leaf: true}}}
}

// plainOpen is a tree as it lies on a shelf.
func plainOpen(size, root int, on *shelf) plain {
	return plain{size: size, root: root, on: on, dirty: map[int]api.Node{}}
}

// copied is the same tree, with a map of its own.
func (p plain) copied() plain {
	p.dirty = maps.Clone(p.dirty)
	return p
}

// add gives a dirty node a number.
func (p plain) add(n api.Node) int {
	id := -1
	for _, there := p.dirty[id]; there; _, there = p.dirty[id] {
		id--
	}
	p.dirty[id] = n
	return id
}

// node is the node of a number, if it is in its place between two bounds.
func (p plain) node(id int, low, high string) (api.Node, bool) {
	n, ok := p.dirty[id]
	if id >= 0 {
		d, e := node.Decode(p.size, p.on.sectors[id])
		n, ok = d, e == api.OK
	}
	for _, key := range n.Keys {
		if key < low || low != "" && key == low && !n.Leaf || high != "" && key >= high {
			ok = false
		}
	}
	return n, ok
}

// bounded is the bounds of a kid.
func bounded(n api.Node, i int, low, high string) (string, string) {
	if i > 0 {
		low = n.Keys[i-1]
	}
	if i < len(n.Keys) {
		high = n.Keys[i]
	}
	return low, high
}

// plainSize is how many bytes a node has.
func plainSize(n api.Node) int {
	size := 16
	if !n.Leaf {
		size += 4
	}
	for i, key := range n.Keys {
		if n.Leaf {
			size += 2 + len(key) + len(n.Values[i])
		} else {
			size += 5 + len(key)
		}
	}
	return size
}

// step is a node on the way to a key: which kid the way takes, and the node's bounds.
type step struct {
	n         api.Node
	id, kid   int
	low, high string
}

// way is the nodes on the way to a key, from the root on.
func (p plain) way(key string) ([]step, bool) {
	var l []step
	id, low, high := p.root, "", ""
	for {
		n, ok := p.node(id, low, high)
		if !ok {
			return nil, false
		}
		kid := 0
		for kid < len(n.Keys) && n.Keys[kid] <= key {
			kid++
		}
		l = append(l, step{n, id, kid, low, high})
		if n.Leaf {
			return l, true
		}
		id = n.Kids[kid]
		low, high = bounded(n, kid, low, high)
	}
}

// get is a key's value.
func (p plain) get(key string) (string, bool, api.Errno) {
	l, ok := p.way(key)
	if !ok {
		return "", false, api.ErrTree
	}
	n := l[len(l)-1].n
	if i := slices.Index(n.Keys, key); i >= 0 {
		return n.Values[i], true, api.OK
	}
	return "", false, api.OK
}

// entryBytes is how many bytes an entry has.
func entryBytes(n api.Node, i int) int {
	if n.Leaf {
		return 2 + len(n.Keys[i]) + len(n.Values[i])
	}
	return 5 + len(n.Keys[i])
}

// plainSplit is a node's halves and the key between them; chapter 9's words, of kids with any numbers.
func plainSplit(n api.Node) (api.Node, string, api.Node) {
	all, most := 0, len(n.Keys)-1
	for i := range n.Keys {
		all += entryBytes(n, i)
	}
	if !n.Leaf {
		most--
	}
	i, ahead := 1, entryBytes(n, 0)
	for i < most && 2*ahead < all {
		ahead += entryBytes(n, i)
		i++
	}
	if n.Leaf {
		return api.Node{Leaf: true, Keys: n.Keys[:i:i], Values: n.Values[:i:i]}, n.Keys[i], api.Node{Leaf: true, Keys: n.Keys[i:], Values: n.Values[i:]}
	}
	return api.Node{Keys: n.Keys[:i:i], Kids: n.Kids[: i+1 : i+1]}, n.Keys[i], api.Node{Keys: n.Keys[i+1:], Kids: n.Kids[i+1:]}
}

// plainJoin is two nodes as one.
func plainJoin(left api.Node, key string, right api.Node) api.Node {
	n := api.Node{Leaf: left.Leaf, Keys: slices.Clone(left.Keys)}
	if !n.Leaf {
		n.Keys = append(n.Keys, key)
	}
	n.Keys = append(n.Keys, right.Keys...)
	n.Values = append(slices.Clone(left.Values), right.Values...)
	n.Kids = append(slices.Clone(left.Kids), right.Kids...)
	return n
}

// change is the tree with a value of a key, or without the key.
func (p plain) change(key, value string, gone bool) (plain, api.Errno) {
	if !gone && (len(key) < 1 || len(key) > 64 || len(value) > 64) {
		return p, api.ErrEntry
	}
	l, ok := p.way(key)
	if !ok {
		return p, api.ErrTree
	}
	n := l[len(l)-1].n
	place, there := slices.BinarySearch(n.Keys, key)
	if gone && !there || !gone && there && n.Values[place] == value {
		return p, api.OK
	}
	n.Keys, n.Values = slices.Clone(n.Keys), slices.Clone(n.Values)
	if there {
		n.Keys, n.Values = slices.Delete(n.Keys, place, place+1), slices.Delete(n.Values, place, place+1)
	}
	if !gone {
		n.Keys, n.Values = slices.Insert(n.Keys, place, key), slices.Insert(n.Values, place, value)
	}
	return p.copied().up(l, n)
}

// up looks at changed nodes from the leaf up.
func (p plain) up(l []step, n api.Node) (plain, api.Errno) {
	for i := len(l) - 2; i >= 0; i-- {
		s := l[i]
		above := api.Node{Keys: slices.Clone(s.n.Keys), Kids: slices.Clone(s.n.Kids)}
		first, count := s.kid, 1
		if plainSize(n) < p.size/4 {
			other := s.kid + 1
			if other == len(s.n.Kids) {
				other = s.kid - 1
			}
			low, high := bounded(s.n, other, s.low, s.high)
			o, ok := p.node(s.n.Kids[other], low, high)
			if !ok || o.Leaf != n.Leaf {
				return p, api.ErrTree
			}
			first, count = min(s.kid, other), 2
			if other < s.kid {
				n = plainJoin(o, s.n.Keys[first], n)
			} else {
				n = plainJoin(n, s.n.Keys[first], o)
			}
		}
		above.Keys = slices.Delete(above.Keys, first, first+count-1)
		above.Kids = slices.Delete(above.Kids, first+1, first+count)
		if plainSize(n) > p.size {
			left, key, right := plainSplit(n)
			above.Keys = slices.Insert(above.Keys, first, key)
			above.Kids = slices.Insert(above.Kids, first+1, p.add(right))
			n = left
		}
		above.Kids[first] = p.add(n)
		n = above
	}
	return p.crown(n), api.OK
}

// crown is the tree of a root that was changed.
func (p plain) crown(n api.Node) plain {
	switch {
	case plainSize(n) > p.size:
		left, key, right := plainSplit(n)
		p.root = p.add(api.Node{Keys: []string{key}, Kids: []int{p.add(left), p.add(right)}})
	case !n.Leaf && len(n.Keys) == 0:
		p.root = n.Kids[0]
	default:
		p.root = p.add(n)
	}
	return p
}

// found is what is found when all of a tree is gone over.
type found struct {
	pairs   []api.Pair // up to a node that is not in its place
	e       api.Errno  // of that
	sectors []int
	depths  []int // of leaves
	small   bool  // some node is not big enough
}

// over goes over all nodes.
func (p plain) over() found {
	var f found
	p.visit(p.root, "", "", 1, &f)
	return f
}

// visit goes over the nodes from one on.
func (p plain) visit(id int, low, high string, depth int, f *found) {
	n, ok := p.node(id, low, high)
	if !ok {
		f.e = api.ErrTree
		return
	}
	if n.Leaf {
		f.depths = append(f.depths, depth)
	}
	for i, value := range n.Values {
		f.pairs = append(f.pairs, api.Pair{Key: n.Keys[i], Value: value})
	}
	for i, kid := range n.Kids {
		low, high := bounded(n, i, low, high)
		if p.visit(kid, low, high, depth+1, f); f.e != api.OK {
			return
		}
	}
	if depth > 1 && plainSize(n) < p.size/4 {
		f.small = true
	}
	if id >= 0 {
		f.sectors = append(f.sectors, id)
	}
}

// height is how deep the first leaf is.
func (p plain) height() int {
	id, low, high := p.root, "", ""
	for depth := 1; ; depth++ {
		n, ok := p.node(id, low, high)
		if !ok {
			return 0
		}
		if n.Leaf {
			return depth
		}
		id = n.Kids[0]
		low, high = bounded(n, 0, low, high)
	}
}

// check tells whether all is as it should be.
func (p plain) check() api.Errno {
	f := p.over()
	once := slices.Compact(slices.Sorted(slices.Values(f.sectors)))
	if f.e != api.OK || f.small || len(once) < len(f.sectors) || slices.Min(f.depths) < slices.Max(f.depths) {
		return api.ErrTree
	}
	return api.OK
}

// dirtyOf is the dirty nodes from one on, as they lie down.
func (p plain) dirtyOf(id int) []int {
	if id >= 0 {
		return nil
	}
	var l []int
	for _, kid := range p.dirty[id].Kids {
		l = append(l, p.dirtyOf(kid)...)
	}
	return append(l, id)
}

// place lays all dirty nodes into sectors.
func (p plain) place(sectors []int) (plain, []api.Sector) {
	var laid []api.Sector
	at := map[int]int{}
	for i, id := range p.dirtyOf(p.root) {
		n := p.dirty[id]
		n.Kids = slices.Clone(n.Kids)
		for j, kid := range n.Kids {
			if kid < 0 {
				n.Kids[j] = at[kid]
			}
		}
		at[id] = sectors[i]
		b, e := node.Encode(p.size, n)
		if e != api.OK {
			panic("a node that may not be")
		}
		laid = append(laid, api.Sector{N: sectors[i], Bytes: b})
	}
	if p.root < 0 {
		p.root = at[p.root]
	}
	p.dirty = map[int]api.Node{}
	return p, laid
}

// someText is a text by chance, of low to high bytes; of few letters, so that they meet.
func someText(r *rand.Rand, low, high int) string {
	letters := "ab\x00\xff"
	b := make([]byte, low+r.Intn(high-low+1))
	for i := range b {
		b[i] = letters[r.Intn(len(letters))]
	}
	return string(b)
}

// someLength is the most bytes that keys, or values, have: often few or all.
func someLength(r *rand.Rand, low, high int) int {
	switch r.Intn(3) {
	case 0:
		return high
	case 1:
		return min(low+3+r.Intn(4), high)
	}
	return low + r.Intn(high-low+1)
}
