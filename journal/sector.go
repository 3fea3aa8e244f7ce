package journal

import (
	"bytes"

	"dedup/api"
	"dedup/codec"
)

// A sector's head: the mark, its generation, its place, how many bytes it has, the check sum.
const (
	mark     = "DJRN"
	usedAt   = 16
	headSize = 24
)

// maySize tells whether a sector may have so many bytes.
func maySize(size int) bool {
	return size >= api.MinSector && size <= api.MaxSector && size&(size-1) == 0
}

// maySectors tells whether a journal may have so many sectors.
func maySectors(n int) bool {
	return n >= 1 && n <= api.MaxSectors
}

// roomOf is how many bytes of records a sector has at most.
func roomOf(size int) int {
	return size - headSize
}

// sectorOf is a sector's bytes.
func sectorOf(size int, generation uint64, place int, used []byte) []byte {
	b := make([]byte, size)
	copy(b[headSize:], used)
	w := codec.NewWriter(headSize)
	w.Raw(mark)
	w.U64(generation)
	w.U32(uint32(place))
	w.U32(uint32(len(used)))
	ahead, _ := w.Done()
	w.U32(codec.Crc(ahead + string(b[headSize:])))
	head, _ := w.Done()
	copy(b, head)
	return b
}

// usedOf is the bytes of records that a sector has, and whether it is right.
func usedOf(b []byte, generation uint64, place int) ([]byte, bool) {
	n := codec.NewReader(string(b[usedAt:headSize])).U32()
	if n > uint32(roomOf(len(b))) {
		return nil, false
	}
	used := b[headSize : headSize+int(n)]
	// What is written again tells of all at once: the mark, the generation, the place, the check sum, the zeros behind.
	return used, bytes.Equal(b, sectorOf(len(b), generation, place, used))
}
