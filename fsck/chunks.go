package fsck

import (
	"dedup/api"
	"dedup/chunk"
	"dedup/extent"
	"dedup/file"
	"dedup/inode"
)

// chunks looks at the files' content, and at chunks and containers.
func (l *look) chunks() api.Errno {
	b, e := l.book()
	if e != api.OK {
		return e
	}
	containers, e := b.Containers()
	if e != api.OK {
		return e
	}
	for x := range inode.All(l.redone) {
		if x.Dir {
			continue
		}
		if e := file.Right(b, x.Number, x.Size); e != api.OK {
			return e
		}
	}
	l.found.Containers = len(containers)
	if !liveRight(b, containers) {
		return api.ErrChunk
	}
	return l.eachChunk(b, containers)
}

// book is a book on the redone tree.
func (l *look) book() (*chunk.Book, api.Errno) {
	sp, e := l.dataSpace()
	if e != api.OK {
		return nil, e
	}
	return chunk.New(l.base.Shape, l.redone, sp, l.disk)
}

// liveRight tells whether each container has as many chunks as live slots, and at least as many slots, and each chunk a container that is there.
func liveRight(b *chunk.Book, containers []api.Container) bool {
	lying := map[int]int{}
	for x := range b.Chunks() {
		lying[x.Container]++
	}
	for _, k := range containers {
		if k.Slots < k.Live || k.Live != lying[k.Id] {
			return false
		}
		delete(lying, k.Id)
	}
	return len(lying) == 0
}

// eachChunk looks at each chunk's bytes and Refs, and whether the numbers of chunks and containers were given.
func (l *look) eachChunk(b *chunk.Book, containers []api.Container) api.Errno {
	_, nextChunk, nextContainer, e := inode.Counters(l.redone)
	if e != api.OK {
		return e
	}
	refs, e := extent.Refs(l.redone)
	if e != api.OK {
		return e
	}
	counts := map[int]int{}
	for _, r := range refs {
		counts[r.Chunk] = r.Count
	}
	for x := range b.Chunks() {
		if _, e := b.Get(x.Id); e != api.OK {
			return e
		}
		if x.Refs != counts[x.Id] || x.Id >= nextChunk {
			return api.ErrChunk
		}
		l.found.Chunks++
	}
	for _, k := range containers {
		if k.Id >= nextContainer {
			return api.ErrChunk
		}
	}
	return api.OK
}
