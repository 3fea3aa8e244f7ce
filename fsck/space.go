package fsck

import (
	"dedup/api"
	"dedup/codec"
	"dedup/layout"
	"dedup/space"
	"dedup/tree"
)

// The keys of containers' records are from the one on and below the other.
const (
	fromContainers = "k"
	toContainers   = "l"
)

// dataSpace is a space of all data sectors.
func (l *look) dataSpace() (*space.Space, api.Errno) {
	data := layout.Data(l.base.Shape)
	return space.New(data.First, data.Count)
}

// space looks at which sectors nodes and containers have.
func (l *look) space() api.Errno {
	sp, e := l.dataSpace()
	if e != api.OK {
		return e
	}
	nodes, e := l.laid.Sectors()
	if e != api.OK {
		return e
	}
	l.found.Nodes = len(nodes)
	for _, sector := range nodes {
		if sp.Mark(one(sector)) != api.OK {
			return api.ErrVolume
		}
	}
	if !markContainers(sp, l.base.Shape.Pack, firstsOf(l.laid), firstsOf(l.redone)) {
		return api.ErrVolume
	}
	l.found.Free = sp.Left()
	if l.redone.Dirty() > sp.Left() {
		return api.ErrFull
	}
	return api.OK
}

// markContainers lets the sectors of all containers be used, of which some trees tell where each begins; false, where they tell of one that can't lie there.
func markContainers(sp *space.Space, sectors int, trees ...map[int]int) bool {
	marked := map[int]int{}
	for _, firsts := range trees {
		for id, first := range firsts {
			at, already := marked[id]
			if already && at == first {
				continue
			}
			if already || sp.Mark(api.Area{First: first, Count: sectors}) != api.OK {
				return false
			}
			marked[id] = first
		}
	}
	return true
}

// firstsOf is where each container of a tree begins; what is no record is passed over.
func firstsOf(t *tree.Tree) map[int]int {
	firsts := map[int]int{}
	for key, value := range t.Scan(fromContainers, toContainers) {
		_, numbers, name, e := codec.Split(key, 1)
		if e != api.OK || name != "" || numbers[0] < 1 || numbers[0] > api.MaxNumber {
			continue
		}
		r := codec.NewReader(value)
		first, slots, live := r.U32(), r.U32(), r.U32()
		if r.Done() == api.OK && live <= slots {
			firsts[int(numbers[0])] = int(first)
		}
	}
	return firsts
}
