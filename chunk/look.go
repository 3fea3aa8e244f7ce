package chunk

import (
	"iter"

	"dedup/api"
	"dedup/pack"
	"dedup/sha"
	"dedup/tree"
)

// sumOf is the sum of bytes, as many bits of it as the shape says.
func (b *Book) sumOf(data []byte) [sumSize]byte {
	return sha.Bits(sha.Sum(data), b.shape.Bits)
}

// Get is a chunk's bytes.
func (b *Book) Get(id int) ([]byte, api.Errno) {
	if !b.made() {
		return nil, api.ErrClosed
	}
	x, e := chunkOf(b.tree, id)
	if e != api.OK {
		return nil, e
	}
	data, e := b.bytesOf(x)
	if e != api.OK {
		return nil, e
	}
	if b.sumOf(data) != x.Sum {
		return nil, api.ErrChunk
	}
	return data, api.OK
}

// bytesOf is the bytes to which a chunk's record points, whatever their sum is.
func (b *Book) bytesOf(x api.Chunk) ([]byte, api.Errno) {
	k, e := containerOf(b.tree, x.Container)
	if e != api.OK {
		return nil, e
	}
	image, e := b.imageOf(k)
	if e != api.OK {
		return nil, api.ErrChunk
	}
	data, e := pack.Chunk(image, api.Slot{Offset: x.Offset, Length: x.Length})
	if e != api.OK {
		return nil, api.ErrChunk
	}
	return data, api.OK
}

// imageOf is a container's bytes, in memory or as the source has them.
func (b *Book) imageOf(k api.Container) ([]byte, api.Errno) {
	if at, ok := b.filled[k.Id]; ok {
		return at.pack.Image(), api.OK
	}
	var image []byte
	for i := range b.shape.Pack {
		sector, e := sectorOf(b.source, k.First+i)
		if e != api.OK {
			return nil, e
		}
		if len(sector) != b.shape.Sector {
			return nil, api.ErrIO
		}
		image = append(image, sector...)
	}
	return image, api.OK
}

// sectorOf is what a source tells of a sector. A source may be anybody's: one that panics refuses.
func sectorOf(r tree.Reader, n int) (sector []byte, e api.Errno) {
	defer func() {
		if recover() != nil {
			sector, e = nil, api.ErrIO
		}
	}()
	return r.Read(n)
}

// Refs is how many refer to a chunk.
func (b *Book) Refs(id int) (int, api.Errno) {
	if !b.made() {
		return 0, api.ErrClosed
	}
	x, e := chunkOf(b.tree, id)
	return x.Refs, e
}

// Chunks goes over the records, as they are when the ranging begins.
func (b *Book) Chunks() iter.Seq[api.Chunk] {
	return func(yield func(api.Chunk) bool) {
		if !b.made() {
			return
		}
		for x, ok := range recordsOf(b.tree, chunkPrefix, asChunk) {
			if ok && !yield(x) {
				return
			}
		}
	}
}

// Containers is all of them, by their numbers.
func (b *Book) Containers() ([]api.Container, api.Errno) {
	if !b.made() {
		return nil, api.ErrClosed
	}
	// An iterator over keys does not tell of a node that can't be read.
	if _, e := b.tree.Count(); e != api.OK {
		return nil, e
	}
	live := map[int]int{} // bytes of live chunks, by container
	for x, ok := range recordsOf(b.tree, chunkPrefix, asChunk) {
		if !ok {
			return nil, api.ErrChunk
		}
		live[x.Container] += x.Length
	}
	var l []api.Container
	for k, ok := range recordsOf(b.tree, containerPrefix, asContainer) {
		if !ok {
			return nil, api.ErrChunk
		}
		k.Sectors, k.Bytes, k.Open = b.shape.Pack, live[k.Id], k.Id == b.open
		l = append(l, k)
	}
	return l, api.OK
}
