package chunk

import (
	"bytes"
	"cmp"
	"maps"
	"slices"

	"dedup/api"
)

// Take is the sectors of containers that are not as they were at the last Take.
func (b *Book) Take() []api.Sector {
	if !b.made() {
		return nil
	}
	var l []api.Sector
	for _, id := range slices.Sorted(maps.Keys(b.filled)) {
		l = append(l, b.takeOf(id)...)
		if id != b.open {
			delete(b.filled, id)
		}
	}
	return l
}

// takeOf is those of a container in memory. A pack does not tell of sectors that are zeros as they were; but where a container lay that was let go, other bytes lie there still.
func (b *Book) takeOf(id int) []api.Sector {
	at := b.filled[id]
	l := at.pack.Take()
	end := b.slotSectors(at)
	for n := at.taken; n < end; n++ {
		told := slices.ContainsFunc(l, func(s api.Sector) bool { return s.N == n })
		if !told && !b.blank(at.first+n) {
			l = append(l, api.Sector{N: n, Bytes: make([]byte, b.shape.Sector)})
		}
	}
	at.taken = end
	b.filled[id] = at
	for i := range l {
		l[i].N += at.first
	}
	slices.SortFunc(l, func(x, y api.Sector) int { return cmp.Compare(x.N, y.N) })
	return l
}

// slotSectors is how many sectors of a container, the first ones, have bytes of slots.
func (b *Book) slotSectors(at filled) int {
	l := at.pack.Slots()
	if len(l) == 0 {
		return 0
	}
	last := l[len(l)-1]
	return (last.Offset + last.Length + b.shape.Sector - 1) / b.shape.Sector
}

// blank tells whether the source has zeros in a sector.
func (b *Book) blank(sector int) bool {
	have, e := sectorOf(b.source, sector)
	return e == api.OK && bytes.Equal(have, make([]byte, b.shape.Sector))
}
