package file_test

import (
	"encoding/binary"
	"maps"
	"strings"
	"testing"

	"dedup/api"
	"dedup/chunk"
	"dedup/disk"
	"dedup/extent"
	"dedup/file"
	"dedup/tree"
)

// keyOf is the key of an extent, or of another one of two numbers.
func keyOf(l ...int) string {
	b := []byte("x")
	for _, n := range l {
		b = binary.BigEndian.AppendUint64(b, uint64(n))
	}
	return string(b)
}

// valueOf is the value of an extent.
func valueOf(chunk, length int) string {
	b := binary.BigEndian.AppendUint32(nil, uint32(chunk))
	return string(binary.BigEndian.AppendUint32(b, uint32(length)))
}

// with lets a book's tree have a key and a value, whatever they are.
func with(t *testing.T, b *chunk.Book, key, value string) *chunk.Book {
	t.Helper()
	x, e := b.Tree().Put(key, value)
	wantErr(t, "Put", e, api.OK)
	other := b.Fork()
	wantErr(t, "Set", other.Set(x), api.OK)
	return other
}

// written writes what a book has to its disk.
func written(t *testing.T, b *chunk.Book, d *disk.Disk) {
	t.Helper()
	for _, s := range b.Take() {
		wantErr(t, "Write", d.Write(s.N, s.Bytes), api.OK)
	}
}

// threeChunks is a book whose inode 2 has three extents of 10 bytes, from 0, 10 and 20 on; they lie on the disk alone.
func threeChunks(t *testing.T) (*chunk.Book, *disk.Disk) {
	t.Helper()
	b, d := newBook(t, someShape())
	for i, data := range []string{"abcdefghij", "ABCDEFGHIJ", "0123456789"} {
		mustWrite(t, b, 2, 10*i, 10*i, data)
	}
	written(t, b, d)
	other, e := chunk.New(someShape(), b.Tree(), b.Space(), d)
	wantErr(t, "New", e, api.OK)
	return other, d
}

// TestTurnedBit: P17.1 to P17.4: a chunk whose bytes are not what they were: whoever wants it is refused with ErrChunk, and nobody else.
func TestTurnedBit(t *testing.T) {
	b, d := threeChunks(t)
	d.Flush() // an image has what lasts
	at := strings.Index(string(d.Image()), "ABCDEF")
	sector, _ := d.Read(at / 512)
	sector[at%512] ^= 1
	d.Write(at/512, sector)
	wantErr(t, "Right", file.Right(b, 2, 30), api.ErrChunk)
	wantErr(t, "Right", file.Right(b, 2, 29), api.ErrExtent)
	for _, c := range []struct {
		offset, n int
		want      api.Errno
	}{{0, 10, api.OK}, {0, 11, api.ErrChunk}, {10, 1, api.ErrChunk}, {19, 1, api.ErrChunk}, {20, 10, api.OK}, {19, 99, api.ErrChunk}, {15, 0, api.OK}} {
		s, e := file.Read(b, 2, 30, c.offset, c.n)
		if wantErr(t, "Read", e, c.want); e != api.OK && s != "" {
			t.Error("Read", c, s)
		}
		f := b.Fork()
		n, e := file.Write(f, 2, 30, c.offset, strings.Repeat("-", min(c.n, 10)))
		if wantOK := c.offset+min(c.n, 10) <= 10 || c.offset >= 20 || c.n == 0; (e == api.OK) != wantOK || e != api.OK && (e != api.ErrChunk || n != 0) {
			t.Error("Write", c, n, e)
		}
	}
	for to, want := range map[int]api.Errno{0: api.OK, 5: api.OK, 10: api.OK, 11: api.ErrChunk, 19: api.ErrChunk, 20: api.OK, 25: api.OK, 30: api.OK} {
		f := b.Fork()
		wantErr(t, "Truncate", file.Truncate(f, 2, 30, to), want)
	}
	f := b.Fork()
	wantErr(t, "Free", file.Free(f, 2), api.OK)
	wantRefs(t, f)
}

// TestRight: P17.4: extents up to the size and above it, chunks that are not there or have another length; ErrExtent is named first.
func TestRight(t *testing.T) {
	b, _ := threeChunks(t)
	for size, want := range map[int]api.Errno{30: api.OK, 31: api.OK, api.MaxFile: api.OK, 29: api.ErrExtent, 21: api.ErrExtent, 20: api.ErrExtent, 5: api.ErrExtent, 0: api.ErrExtent} {
		wantErr(t, "Right", file.Right(b, 2, size), want)
	}
	for _, size := range []int{0, 1, api.MaxFile} {
		wantErr(t, "Right of an empty file", file.Right(b, 3, size), api.OK)
	}
	for what, c := range map[string]struct {
		key, value string
		want       api.Errno
	}{
		"another extent of a chunk":  {keyOf(2, 40), valueOf(1, 10), api.OK},
		"too long":                   {keyOf(2, 40), valueOf(1, 11), api.ErrChunk},
		"too short":                  {keyOf(2, 40), valueOf(1, 9), api.ErrChunk},
		"no such chunk":              {keyOf(2, 40), valueOf(4, 10), api.ErrChunk},
		"up to the size":             {keyOf(2, 90), valueOf(1, 10), api.OK},
		"above the size":             {keyOf(2, 91), valueOf(1, 10), api.ErrExtent},
		"above it, and no such one":  {keyOf(2, 100), valueOf(4, 10), api.ErrExtent},
		"no extent":                  {keyOf(2, 40), "", api.ErrExtent},
		"no extent's key":            {keyOf(2), valueOf(1, 10), api.ErrExtent},
		"another inode's":            {keyOf(3, 95), valueOf(9, 10), api.OK},
		"no extent of another inode": {keyOf(3, 95), "", api.OK},
	} {
		if e := file.Right(with(t, b, c.key, c.value), 2, 100); e != c.want {
			t.Error(what, e, "want", c.want)
		}
	}
	both := with(t, with(t, b, keyOf(2, 40), valueOf(9, 10)), keyOf(2, 95), valueOf(1, 10))
	wantErr(t, "Right of both", file.Right(both, 2, 100), api.ErrExtent)
}

// TestOtherLength: P17.1: where an extent and its chunk have other lengths, the bytes are the chunk's as far as both go, and 0.
func TestOtherLength(t *testing.T) {
	b, _ := threeChunks(t)
	short := with(t, b, keyOf(2, 40), valueOf(1, 4))
	wantRead(t, short, 2, 60, 38, 9, "\x00\x00abcd\x00\x00\x00")
	long := with(t, b, keyOf(2, 40), valueOf(1, 13))
	wantRead(t, long, 2, 60, 38, 17, "\x00\x00abcdefghij\x00\x00\x00\x00\x00")
	for offset := 38; offset < 56; offset++ {
		if _, e := file.Read(long, 2, 60, offset, 3); e != api.OK {
			t.Error("Read", offset, e)
		}
		for _, x := range []*chunk.Book{short, long} {
			f := x.Fork()
			mustWrite(t, f, 2, 60, offset, "##")
			f = x.Fork()
			mustTruncate(t, f, 2, 60, offset)
		}
	}
}

// TestNoExtent: P17.1 to P17.3: what is no extent's is told by those that look at the file; where nothing is done nothing is looked at.
func TestNoExtent(t *testing.T) {
	base, _ := threeChunks(t)
	b := with(t, base, keyOf(2, 50), "")
	_, e := file.Read(b, 2, 30, 0, 5)
	wantErr(t, "Read", e, api.ErrExtent)
	n, e := file.Write(b, 2, 30, 0, "a")
	if wantErr(t, "Write", e, api.ErrExtent); n != 0 {
		t.Error("Write", n)
	}
	wantErr(t, "Truncate", file.Truncate(b, 2, 30, 25), api.ErrExtent)
	wantErr(t, "Free", file.Free(b, 2), api.ErrExtent)
	mustWrite(t, b, 2, 30, 0, "")
	mustTruncate(t, b, 2, 30, 30)
	mustTruncate(t, b, 2, 30, api.MaxFile)
	mustWrite(t, b, 3, 0, 0, "another file")
	wantRead(t, b, 3, 12, 8, 9, "file")
}

// TestNotCounted: P17.2, P17.3: a chunk that is counted too few times is gone when it is to be counted less: ErrChunk.
func TestNotCounted(t *testing.T) {
	base, _ := threeChunks(t)
	for _, change := range []func(b *chunk.Book) api.Errno{
		func(b *chunk.Book) api.Errno { return file.Truncate(b, 2, 30, 0) },
		func(b *chunk.Book) api.Errno { return file.Free(b, 2) },
		func(b *chunk.Book) api.Errno {
			n, e := file.Write(b, 2, 30, 0, strings.Repeat("-", 30))
			if n != 0 {
				t.Error("Write", n)
			}
			return e
		},
	} {
		b := with(t, base, keyOf(2, 10), valueOf(1, 10)) // the second extent is the first one's chunk, too
		wantErr(t, "a change", change(b), api.ErrChunk)
	}
}

// gone is a disk without some sector.
type gone struct {
	*disk.Disk
	sector int
}

func (g gone) Read(n int) ([]byte, api.Errno) {
	if n == g.sector {
		return nil, api.ErrSector
	}
	return g.Disk.Read(n)
}

// TestBrokenTree: all: what the tree refuses is told.
func TestBrokenTree(t *testing.T) {
	b, d := threeChunks(t)
	x := b.Tree()
	for i := range 40 {
		x, _ = extent.Put(x, 9, api.Extent{Offset: i, Length: 1, Chunk: 1})
	}
	const first = 60
	sectors := make([]int, x.Dirty())
	for i := range sectors {
		sectors[i] = first + i
	}
	x, l, e := x.Place(sectors)
	if e != api.OK || len(l) < 4 {
		t.Fatal("Place", e, len(l))
	}
	for _, s := range l {
		d.Write(s.N, s.Bytes)
	}
	for _, sector := range sectors[:len(sectors)-1] {
		y, e := tree.Open(512, x.Root(), gone{d, sector})
		wantErr(t, "Open", e, api.OK)
		f := b.Fork()
		f.Set(y)
		s, e := file.Read(f, 9, 40, 0, 40)
		wantErr(t, "Read", e, api.ErrTree)
		n, e := file.Write(f, 9, 40, 3, "a")
		wantErr(t, "Write", e, api.ErrTree)
		if s != "" || n != 0 {
			t.Errorf("beside an error: %q %d", s, n)
		}
		wantErr(t, "Truncate", file.Truncate(f, 9, 40, 3), api.ErrTree)
		wantErr(t, "Free", file.Free(f, 9), api.ErrTree)
		wantErr(t, "Right", file.Right(f, 9, 40), api.ErrTree)
	}
}

// TestFull: P17.5: where no room is left a Write is told ErrFull; on a Fork that is thrown away nothing of it is seen.
func TestFull(t *testing.T) {
	s := someShape()
	s.Sectors = 16
	b, _ := newBook(t, s)
	size, whole := 0, ""
	for i := range 200 {
		data := strings.Repeat(string([]byte{byte(i), byte(i >> 4), '+'}), 40)
		was := pairsOf(b)
		f := b.Fork()
		n, e := file.Write(f, 2, size, size, data)
		if e == api.OK {
			b, size, whole = f, n, whole+data
			continue
		}
		if wantErr(t, "Write", e, api.ErrFull); n != 0 || !maps.Equal(pairsOf(b), was) {
			t.Error("beside ErrFull", n)
		}
		wantRead(t, b, 2, size, 0, size, whole)
		wantErr(t, "Right", file.Right(b, 2, size), api.OK)
		wantCounted(t, b)
		mustTruncate(t, b, 2, size, 0)
		wantRefs(t, b)
		return
	}
	t.Error("there is always room")
}

// TestKept: R3 with P17.1: what Read told stays, whatever is written behind it.
func TestKept(t *testing.T) {
	b, _ := newBook(t, someShape())
	mustWrite(t, b, 2, 0, 0, "abc")
	s, _ := file.Read(b, 2, 3, 0, 3)
	mustWrite(t, b, 2, 3, 0, "xyz")
	if s != "abc" {
		t.Error("Read told", s)
	}
}
