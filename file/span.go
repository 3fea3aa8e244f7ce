package file

import (
	"dedup/api"
	"dedup/chunk"
	"dedup/cut"
	"dedup/extent"
)

// span is neighbouring bytes of a file, from an offset on.
type span struct {
	from int
	data []byte
}

// over lays bytes that begin at an offset over those of a span, as far as they lie within it.
func (s span) over(offset int, data []byte) {
	place, ahead := max(offset-s.from, 0), max(s.from-offset, 0)
	if place < len(s.data) && ahead < len(data) {
		copy(s.data[place:], data[ahead:])
	}
}

// spanOf is the bytes from from on and below to, of which these extents have some; 0 where none of them lies.
func spanOf(b *chunk.Book, extents []api.Extent, from, to int) (span, api.Errno) {
	s := span{from: from, data: make([]byte, to-from)}
	for _, x := range extents {
		data, e := b.Get(x.Chunk)
		if e != api.OK {
			return span{}, e
		}
		s.over(x.Offset, data[:min(len(data), x.Length)])
	}
	return s, api.OK
}

// around is the least range that has all bytes of another one and of extents.
func around(extents []api.Extent, from, to int) (int, int) {
	for _, x := range extents {
		from, to = min(from, x.Offset), max(to, x.Offset+x.Length)
	}
	return from, to
}

// cutOut takes the extents that have a byte of a range from a file, and tells them; their chunks are counted as before.
func cutOut(b *chunk.Book, ino, from, to int) ([]api.Extent, api.Errno) {
	t, gone, e := extent.Cut(b.Tree(), ino, from, to)
	if e != api.OK {
		return nil, e
	}
	return gone, b.Set(t)
}

// replace lays bytes in the place of extents that were cut out. These are counted less only then: a chunk that both have stays.
func replace(b *chunk.Book, ino int, gone []api.Extent, s span) api.Errno {
	if e := lay(b, ino, s); e != api.OK {
		return e
	}
	for _, x := range gone {
		if e := b.Decr(x.Chunk); e != api.OK {
			return e
		}
	}
	return api.OK
}

// lay lays bytes, piece by piece.
func lay(b *chunk.Book, ino int, s span) api.Errno {
	for from, n := range cut.Cuts(b.Shape().Cut, s.data) {
		id, e := b.Put(s.data[from : from+n])
		if e != api.OK {
			return e
		}
		t, e := extent.Put(b.Tree(), ino, api.Extent{Offset: s.from + from, Length: n, Chunk: id})
		if e != api.OK {
			return e
		}
		if e := b.Set(t); e != api.OK {
			return e
		}
	}
	return api.OK
}
