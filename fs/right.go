package fs

import (
	"dedup/api"
	"dedup/chunk"
	"dedup/extent"
	"dedup/file"
	"dedup/inode"
	"dedup/name"
)

// Right tells whether all is as it should be.
func (f *Fs) Right() api.Errno {
	if !f.made() {
		return api.ErrClosed
	}
	b := f.vol.Book()
	looks := [...]func(b *chunk.Book) api.Errno{namesRight, extentsRight, filesRight, chunksReadable, chunksCounted, containersCounted}
	for _, look := range looks {
		if e := look(b); e != api.OK {
			return e
		}
	}
	return api.OK
}

// namesRight tells why names and inodes are not as they should be.
func namesRight(b *chunk.Book) api.Errno {
	return name.Right(b.Tree())
}

// extentsRight tells why extents are not.
func extentsRight(b *chunk.Book) api.Errno {
	return extent.Right(b.Tree())
}

// filesRight tells why a file's content is not.
func filesRight(b *chunk.Book) api.Errno {
	for x := range inode.All(b.Tree()) {
		if x.Dir {
			continue
		}
		if e := file.Right(b, x.Number, x.Size); e != api.OK {
			return e
		}
	}
	return api.OK
}

// chunksReadable tells why a chunk can't be read.
func chunksReadable(b *chunk.Book) api.Errno {
	for x := range b.Chunks() {
		if _, e := b.Get(x.Id); e != api.OK {
			return e
		}
	}
	return api.OK
}

// chunksCounted tells whether each chunk's Refs are as many extents as point to it.
func chunksCounted(b *chunk.Book) api.Errno {
	refs, e := extent.Refs(b.Tree())
	if e != api.OK {
		return e
	}
	counts := map[int]int{}
	for _, r := range refs {
		counts[r.Chunk] = r.Count
	}
	for x := range b.Chunks() {
		if x.Refs != counts[x.Id] {
			return api.ErrChunk
		}
	}
	return api.OK
}

// containersCounted tells whether each container's Live is how many chunks it has.
func containersCounted(b *chunk.Book) api.Errno {
	l, e := b.Containers()
	if e != api.OK {
		return e
	}
	counts := map[int]int{}
	for x := range b.Chunks() {
		counts[x.Container]++
	}
	for _, k := range l {
		if k.Live != counts[k.Id] {
			return api.ErrChunk
		}
	}
	return api.OK
}
