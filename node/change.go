package node

import (
	"slices"

	"dedup/api"
)

// Find is where a key belongs: of a leaf its place, and whether it is there; of an inner node the kid below which it belongs.
func Find(n api.Node, key string) (int, bool) {
	// All keys are counted, so that it holds of keys that do not rise, too.
	place := 0
	for _, k := range n.Keys {
		if k < key || k == key && !n.Leaf {
			place++
		}
	}
	return place, n.Leaf && place < len(n.Keys) && n.Keys[place] == key
}

// clone is a node that shares no list with the first one.
func clone(n api.Node) api.Node {
	n.Keys = slices.Clone(n.Keys)
	n.Values = slices.Clone(n.Values)
	n.Kids = slices.Clone(n.Kids)
	return n
}

// Put is a leaf with a key and its value.
func Put(n api.Node, key, value string) (api.Node, api.Errno) {
	if !n.Leaf || Check(n) != api.OK {
		return api.Node{}, api.ErrNode
	}
	if !mayKey(key) || !mayValue(value) {
		return api.Node{}, api.ErrEntry
	}
	n = clone(n)
	place, there := Find(n, key)
	if there {
		n.Values[place] = value
		return n, api.OK
	}
	n.Keys = slices.Insert(n.Keys, place, key)
	n.Values = slices.Insert(n.Values, place, value)
	return n, api.OK
}

// Remove is a leaf without a key; the node itself, if it is no leaf that has it.
func Remove(n api.Node, key string) (api.Node, bool) {
	if !n.Leaf || !mayLists(n) || !slices.Contains(n.Keys, key) {
		return clone(n), false
	}
	left := api.Node{Leaf: true}
	for i, k := range n.Keys {
		if k != key {
			left.Keys = append(left.Keys, k)
			left.Values = append(left.Values, n.Values[i])
		}
	}
	return left, true
}

// entrySize is how many bytes an entry of a node that may be has.
func entrySize(n api.Node, i int) int {
	if n.Leaf {
		return leafRest + len(n.Keys[i]) + len(n.Values[i])
	}
	return innerRest + len(n.Keys[i])
}

// half is how many entries, from the first one on, have half of the bytes of all; at least 1 and at most most.
func half(n api.Node, most int) int {
	all := 0
	for i := range n.Keys {
		all += entrySize(n, i)
	}
	ahead := 0
	for i := 1; i < most; i++ {
		ahead += entrySize(n, i-1)
		if 2*ahead >= all {
			return i
		}
	}
	return most
}

// part is a node of the entries from from to end - 1; of an inner one with the kid ahead of them.
func part(n api.Node, from, end int) api.Node {
	p := api.Node{Leaf: n.Leaf, Keys: slices.Clone(n.Keys[from:end])}
	if n.Leaf {
		p.Values = slices.Clone(n.Values[from:end])
	} else {
		p.Kids = slices.Clone(n.Kids[from : end+1])
	}
	return p
}

// Split is a node's two halves, and the key between them.
func Split(n api.Node) (left api.Node, key string, right api.Node, e api.Errno) {
	if e := Check(n); e != api.OK {
		return api.Node{}, "", api.Node{}, e
	}
	between := 0 // entries that neither half has: an inner node's key goes up
	if !n.Leaf {
		between = 1
	}
	most := len(n.Keys) - between - 1
	if most < 1 {
		return api.Node{}, "", api.Node{}, api.ErrNone
	}
	i := half(n, most)
	return part(n, 0, i), n.Keys[i], part(n, i+between, len(n.Keys)), api.OK
}

// Join is two nodes as one; of inner ones with the key between them.
func Join(left api.Node, key string, right api.Node) (api.Node, api.Errno) {
	if left.Leaf != right.Leaf || checkPart(left) != api.OK || checkPart(right) != api.OK {
		return api.Node{}, api.ErrNode
	}
	var between []string
	if !left.Leaf {
		between = []string{key}
	}
	keys := slices.Concat(left.Keys, between, right.Keys)
	if !rise(keys) {
		return api.Node{}, api.ErrEntry
	}
	return api.Node{
		Leaf:   left.Leaf,
		Keys:   keys,
		Values: slices.Concat(left.Values, right.Values),
		Kids:   slices.Concat(left.Kids, right.Kids),
	}, api.OK
}
