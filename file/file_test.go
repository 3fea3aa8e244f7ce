package file_test

import (
	"maps"
	"math"
	"slices"
	"strings"
	"testing"

	"dedup/api"
	"dedup/chunk"
	"dedup/disk"
	"dedup/extent"
	"dedup/file"
	"dedup/space"
	"dedup/tree"
)

// someShape is one by which up to 16 bytes are one piece.
func someShape() api.Shape {
	return api.Shape{Sector: 512, Sectors: 128, Journal: 4, Pack: 2, Cut: api.Cut{Min: 16, Normal: 16, Max: 64, Seed: 17}, Bits: 256, Dedup: true}
}

// newBook is a book without chunks on a disk of its own.
func newBook(t *testing.T, s api.Shape) (*chunk.Book, *disk.Disk) {
	t.Helper()
	d, _ := disk.New(s.Sector, s.Sectors)
	x, _ := tree.New(s.Sector)
	return bookOn(t, s, x, d), d
}

// bookOn is a book on a tree, the data sectors of its shape and a source.
func bookOn(t *testing.T, s api.Shape, x *tree.Tree, r tree.Reader) *chunk.Book {
	t.Helper()
	sp, _ := space.New(2+s.Journal, s.Sectors-2-s.Journal)
	b, e := chunk.New(s, x, sp, r)
	if e != api.OK || b == nil {
		t.Fatal("New", e)
	}
	return b
}

// mustWrite writes, and tells the new size.
func mustWrite(t *testing.T, b *chunk.Book, ino, size, offset int, data string) int {
	t.Helper()
	n, e := file.Write(b, ino, size, offset, data)
	want := size
	if data != "" {
		want = max(size, offset+len(data))
	}
	if n != want || e != api.OK {
		t.Fatal("Write", ino, size, offset, len(data), "is", n, e, "want", want)
	}
	return n
}

// mustTruncate truncates.
func mustTruncate(t *testing.T, b *chunk.Book, ino, size, to int) int {
	t.Helper()
	if e := file.Truncate(b, ino, size, to); e != api.OK {
		t.Fatal("Truncate", ino, size, to, e)
	}
	return to
}

// wantRead holds bytes of a file.
func wantRead(t *testing.T, b *chunk.Book, ino, size, offset, n int, want string) {
	t.Helper()
	if got, e := file.Read(b, ino, size, offset, n); got != want || e != api.OK {
		t.Errorf("Read(%d, %d, %d, %d): %q %d, want %q", ino, size, offset, n, got, e, want)
	}
}

// wantExtents holds where a file's extents lie, and which chunks they are: offset, length, chunk, one behind the other.
func wantExtents(t *testing.T, b *chunk.Book, ino int, l ...int) {
	t.Helper()
	var want []api.Extent
	for x := range slices.Chunk(l, 3) {
		want = append(want, api.Extent{Offset: x[0], Length: x[1], Chunk: x[2]})
	}
	if got, e := extent.All(b.Tree(), ino); e != api.OK || !slices.Equal(got, want) {
		t.Error("extents of", ino, got, e, "want", want)
	}
}

// wantRefs holds all chunks: number and Refs, one behind the other; and P17.7, that these are the extents.
func wantRefs(t *testing.T, b *chunk.Book, l ...int) {
	t.Helper()
	var got []int
	for x := range b.Chunks() {
		got = append(got, x.Id, x.Refs)
	}
	if !slices.Equal(got, l) {
		t.Error("chunks", got, "want", l)
	}
	wantCounted(t, b)
}

// wantCounted holds P17.7: each chunk's Refs are the number of its extents.
func wantCounted(t *testing.T, b *chunk.Book) {
	t.Helper()
	refs, e := extent.Refs(b.Tree())
	if e != api.OK {
		t.Fatal("Refs", e)
	}
	var got []api.Ref
	for x := range b.Chunks() {
		got = append(got, api.Ref{Chunk: x.Id, Count: x.Refs})
	}
	if !slices.Equal(got, refs) {
		t.Fatal("chunks are counted", got, "extents", refs)
	}
}

// pairsOf is all keys and values of a book's tree.
func pairsOf(b *chunk.Book) map[string]string {
	return maps.Collect(b.Tree().Scan("", ""))
}

// wantErr holds what a call told.
func wantErr(t *testing.T, what string, got, want api.Errno) {
	t.Helper()
	if got != want {
		t.Error(what, got, "want", want)
	}
}

// wantRefused holds what all calls of a file tell.
func wantRefused(t *testing.T, b *chunk.Book, ino, size int, want api.Errno) {
	t.Helper()
	s, e := file.Read(b, ino, size, 0, 1)
	wantErr(t, "Read", e, want)
	n, e := file.Write(b, ino, size, 0, "a")
	wantErr(t, "Write", e, want)
	m, e := file.Write(b, ino, size, 0, "")
	wantErr(t, "Write of nothing", e, want)
	if s != "" || n != 0 || m != 0 {
		t.Errorf("beside an error: %q %d %d", s, n, m)
	}
	wantErr(t, "Truncate", file.Truncate(b, ino, size, 0), want)
	wantErr(t, "Truncate to more", file.Truncate(b, ino, size, api.MaxFile), want)
	wantErr(t, "Right", file.Right(b, ino, size), want)
}

// TestExample: P17.1 to P17.3: the chapter's example.
func TestExample(t *testing.T) {
	b, _ := newBook(t, someShape())
	size := mustWrite(t, b, 2, 0, 5, "abc")
	wantRead(t, b, 2, size, 3, 9, "\x00\x00abc")
	size = mustTruncate(t, b, 2, size, 6)
	wantRead(t, b, 2, size, 5, 9, "a")
	wantRead(t, b, 2, size, 0, 9, "\x00\x00\x00\x00\x00a")
}

// TestNoBook: ErrClosed of a nil book, ahead of ErrArg.
func TestNoBook(t *testing.T) {
	for _, ino := range []int{1, 0, -1} {
		for _, size := range []int{5, -1, api.MaxFile + 1} {
			wantRefused(t, nil, ino, size, api.ErrClosed)
		}
		wantErr(t, "Free", file.Free(nil, ino), api.ErrClosed)
	}
	_, e := file.Read(nil, 1, 1, -1, -1)
	wantErr(t, "Read", e, api.ErrClosed)
	_, e = file.Write(nil, 1, 1, -1, "a")
	wantErr(t, "Write", e, api.ErrClosed)
	wantErr(t, "Truncate", file.Truncate(nil, 1, 1, -1), api.ErrClosed)
}

// TestArgs: ErrArg of numbers that no inode may have, of sizes, offsets, lengths; the edges of what may be; beside it nothing has changed.
func TestArgs(t *testing.T) {
	b, _ := newBook(t, someShape())
	mustWrite(t, b, 2, 0, 0, "abc")
	was := pairsOf(b)
	for _, ino := range []int{0, -1, api.MaxNumber + 1, 1<<32 + 2, math.MaxInt, math.MinInt} {
		wantRefused(t, b, ino, 3, api.ErrArg)
		wantErr(t, "Free", file.Free(b, ino), api.ErrArg)
	}
	beyond := []int{-1, api.MaxFile + 1, 1 << 32, math.MaxInt, math.MinInt}
	for _, n := range beyond {
		wantRefused(t, b, 2, n, api.ErrArg)
		wantErr(t, "Truncate", file.Truncate(b, 2, 3, n), api.ErrArg)
		for _, data := range []string{"", "a"} {
			m, e := file.Write(b, 2, 3, n, data)
			if wantErr(t, "Write", e, api.ErrArg); m != 0 {
				t.Error("Write", n, m)
			}
		}
	}
	for _, n := range []int{-1, math.MinInt} {
		for _, c := range [][2]int{{n, 1}, {1, n}, {n, n}, {9, n}} {
			s, e := file.Read(b, 2, 3, c[0], c[1])
			if wantErr(t, "Read", e, api.ErrArg); s != "" {
				t.Error("Read", c, s)
			}
		}
	}
	for _, c := range []struct {
		offset int
		data   string
	}{{api.MaxFile, "a"}, {api.MaxFile - 1, "ab"}, {1, strings.Repeat("a", api.MaxFile)}, {0, strings.Repeat("a", api.MaxFile+1)}} {
		n, e := file.Write(b, 2, 3, c.offset, c.data)
		if wantErr(t, "Write beyond a file", e, api.ErrArg); n != 0 {
			t.Error("Write", c.offset, n)
		}
	}
	if now := pairsOf(b); !maps.Equal(now, was) {
		t.Error("what was refused changed something")
	}
	for _, ino := range []int{1, api.MaxNumber} {
		size := mustWrite(t, b, ino, 0, 0, "xy")
		wantRead(t, b, ino, size, 0, 9, "xy")
		wantErr(t, "Right", file.Right(b, ino, size), api.OK)
		wantErr(t, "Free", file.Free(b, ino), api.OK)
	}
	wantRead(t, b, 2, 3, 0, 9, "abc")
}

// TestRead: P17.1: each edge of a range, of the size, of holes.
func TestRead(t *testing.T) {
	b, _ := newBook(t, someShape())
	whole := "\x00\x00abc\x00\x00defgh\x00"
	mustWrite(t, b, 2, 0, 2, "abc")
	mustWrite(t, b, 2, 5, 7, "defgh")
	mustWrite(t, b, 3, 0, 0, "another file's")
	wantExtents(t, b, 2, 2, 3, 1, 7, 5, 2)
	size := len(whole)
	for offset := range size + 3 {
		for n := range size + 3 {
			from := min(offset, size)
			wantRead(t, b, 2, size, offset, n, whole[from:min(from+n, size)])
		}
	}
	wantRead(t, b, 2, size, 0, math.MaxInt, whole)
	wantRead(t, b, 2, size, 3, math.MaxInt, whole[3:])
	wantRead(t, b, 2, size, math.MaxInt, math.MaxInt, "")
	wantRead(t, b, 2, size, math.MaxInt, 1, "")
	wantRead(t, b, 2, 0, 0, 5, "")
	wantRead(t, b, 4, 7, 2, 9, "\x00\x00\x00\x00\x00")
	wantRead(t, b, 4, api.MaxFile, 0, math.MaxInt, strings.Repeat("\x00", api.MaxFile))
	wantRead(t, b, 2, api.MaxFile, api.MaxFile-1, 5, "\x00")
	wantRead(t, b, 2, 10, 8, 9, "ef") // what lies at the size or above is not told
	wantRead(t, b, 2, 4, 0, 9, whole[:4])
}

// TestWrite: P17.2: which extents are cut out, what is laid in their place, and how chunks are counted, step by step.
func TestWrite(t *testing.T) {
	b, _ := newBook(t, someShape())
	size := mustWrite(t, b, 2, 0, 10, "abcd")
	wantExtents(t, b, 2, 10, 4, 1)
	size = mustWrite(t, b, 2, size, 14, "efg") // beside the other one: that stays
	wantExtents(t, b, 2, 10, 4, 1, 14, 3, 2)
	size = mustWrite(t, b, 2, size, 7, "xyz") // ahead of it
	wantExtents(t, b, 2, 7, 3, 3, 10, 4, 1, 14, 3, 2)
	wantRefs(t, b, 1, 1, 2, 1, 3, 1)
	size = mustWrite(t, b, 2, size, 11, "B") // within one
	wantExtents(t, b, 2, 7, 3, 3, 10, 4, 4, 14, 3, 2)
	wantRefs(t, b, 2, 1, 3, 1, 4, 1)
	size = mustWrite(t, b, 2, size, 13, "DE") // over the end of one and the begin of the next
	wantExtents(t, b, 2, 7, 3, 3, 10, 7, 5)
	wantRefs(t, b, 3, 1, 5, 1)
	wantRead(t, b, 2, size, 7, 99, "xyzaBcDEfg")
	size = mustWrite(t, b, 2, size, 8, "!!") // up to the end of one
	wantExtents(t, b, 2, 7, 3, 6, 10, 7, 5)
	size = mustWrite(t, b, 2, size, 19, "?")  // with a hole ahead of it
	size = mustWrite(t, b, 2, size, 16, "--") // over the end of one, into the hole
	wantExtents(t, b, 2, 7, 3, 6, 10, 8, 8, 19, 1, 7)
	size = mustWrite(t, b, 2, size, 17, ">>>") // over an end, the hole, and all of the last one
	wantExtents(t, b, 2, 7, 3, 6, 10, 10, 9)
	wantRead(t, b, 2, size, 0, 99, "\x00\x00\x00\x00\x00\x00\x00x!!aBcDEf->>>")
	size = mustWrite(t, b, 2, size, 3, "<") // a hole stays ahead of it and behind
	wantExtents(t, b, 2, 3, 1, 10, 7, 3, 6, 10, 10, 9)
	wantRefs(t, b, 6, 1, 9, 1, 10, 1)
	wantErr(t, "Right", file.Right(b, 2, size), api.OK)
}

// TestWriteOver: P17.2: a hole between two extents that are cut out is laid, as 0.
func TestWriteOver(t *testing.T) {
	b, _ := newBook(t, someShape())
	mustWrite(t, b, 2, 0, 0, "abc")
	mustWrite(t, b, 2, 3, 8, "def")
	mustWrite(t, b, 2, 11, 12, "g")
	mustWrite(t, b, 2, 13, 2, "X\x00\x00\x00\x00\x00Y")
	wantExtents(t, b, 2, 0, 11, 4, 12, 1, 3)
	wantRead(t, b, 2, 13, 0, 99, "abX\x00\x00\x00\x00\x00Yef\x00g")
	wantRefs(t, b, 3, 1, 4, 1)
}

// TestWriteSize: P17.2: the new size: that, or where data ends, if that is more; of no bytes nothing is done.
func TestWriteSize(t *testing.T) {
	b, _ := newBook(t, someShape())
	for _, c := range []struct {
		size, offset int
		data         string
	}{
		{0, 0, "a"}, {9, 0, "ab"}, {2, 0, "ab"}, {2, 1, "ab"}, {3, 7, "z"}, {api.MaxFile, 0, "q"}, {5, api.MaxFile - 1, "e"}, {0, api.MaxFile - 3, "end"},
		{api.MaxFile, api.MaxFile - 2, "ab"},
	} {
		mustWrite(t, b, 2, c.size, c.offset, c.data)
		wantRead(t, b, 2, max(c.size, c.offset+len(c.data)), c.offset, len(c.data), c.data)
	}
	was := pairsOf(b)
	for _, size := range []int{0, 7, api.MaxFile} {
		for _, offset := range []int{0, 1, 9, api.MaxFile} {
			mustWrite(t, b, 2, size, offset, "")
		}
	}
	if now := pairsOf(b); !maps.Equal(now, was) {
		t.Error("a Write of nothing changed something")
	}
}

// TestWriteAgain: P17.2: chunks are counted less behind all that is laid: what is written again is the same chunks, and few that are new are one chunk.
func TestWriteAgain(t *testing.T) {
	b, _ := newBook(t, someShape())
	mustWrite(t, b, 2, 0, 0, "abc")
	for range 3 {
		mustWrite(t, b, 2, 3, 0, "abc")
		wantExtents(t, b, 2, 0, 3, 1)
		mustWrite(t, b, 2, 3, 1, "b")
		wantExtents(t, b, 2, 0, 3, 1)
	}
	wantRefs(t, b, 1, 1)
	mustWrite(t, b, 2, 3, 5, "abc")
	mustWrite(t, b, 3, 0, 7, "abc")
	wantRefs(t, b, 1, 3)
	mustWrite(t, b, 2, 8, 0, "xbc")
	wantExtents(t, b, 2, 0, 3, 2, 5, 3, 1)
	wantRefs(t, b, 1, 2, 2, 1)
	s := someShape()
	s.Dedup = false
	b, _ = newBook(t, s)
	mustWrite(t, b, 2, 0, 0, "abc")
	mustWrite(t, b, 2, 3, 0, "abc") // without Dedup it is another chunk
	wantExtents(t, b, 2, 0, 3, 2)
	wantRefs(t, b, 2, 1)
}

// TestPieces: the words, P17.2: bytes that are laid are cut by the shape's Cut, and each piece is an extent: all of those that stand in the place of what was cut out, from the least offset on up to the greatest end.
func TestPieces(t *testing.T) {
	b, _ := newBook(t, someShape())
	long := strings.Repeat("a text that is cut here and there, 0123456789; ", 8)
	size := mustWrite(t, b, 2, 0, 100, long)
	wantPieces(t, b, 2, 100, long)
	met, _ := extent.Over(b.Tree(), 2, 90, 190)
	end := met[len(met)-1].Offset + met[len(met)-1].Length
	over := strings.Repeat("0123456789", 10)
	mustWrite(t, b, 2, size, 90, over)
	wantPieces(t, b, 2, 90, over+long[90:end-100])
	wantRead(t, b, 2, size, 90, size, over+long[90:])
	wantCounted(t, b)
}

// TestTruncate: P17.3: each edge: what is cut out, what of the first one stays, and what is not done.
func TestTruncate(t *testing.T) {
	base, _ := newBook(t, someShape())
	mustWrite(t, base, 2, 0, 2, "abc")
	mustWrite(t, base, 2, 5, 5, "def")
	mustWrite(t, base, 2, 8, 10, "ghi")
	mustWrite(t, base, 3, 0, 0, "abc")
	const size = 15
	whole := "\x00\x00abcdef\x00\x00ghi\x00\x00"
	for to, want := range [][]int{
		{}, {}, {}, // all of them lie behind
		{2, 1, 4}, {2, 2, 4}, {2, 3, 1},
		{2, 3, 1, 5, 1, 4}, {2, 3, 1, 5, 2, 4}, {2, 3, 1, 5, 3, 2}, {2, 3, 1, 5, 3, 2}, {2, 3, 1, 5, 3, 2},
		{2, 3, 1, 5, 3, 2, 10, 1, 4}, {2, 3, 1, 5, 3, 2, 10, 2, 4}, {2, 3, 1, 5, 3, 2, 10, 3, 3}, {2, 3, 1, 5, 3, 2, 10, 3, 3},
	} {
		b := base.Fork()
		mustTruncate(t, b, 2, size, to)
		wantExtents(t, b, 2, want...)
		wantRead(t, b, 2, to, 0, 99, whole[:to])
		wantRead(t, b, 2, size, 0, 99, whole[:to]+strings.Repeat("\x00", size-to)) // what lies behind is a hole
		wantRead(t, b, 3, 3, 0, 9, "abc")
		wantCounted(t, b)
		wantErr(t, "Right", file.Right(b, 2, to), api.OK)
	}
	b := base.Fork()
	mustTruncate(t, b, 2, 6, 4) // those that lie above the size go as well: they have a byte from there on
	wantExtents(t, b, 2, 2, 2, 4)
	wantCounted(t, b)
	was := pairsOf(base)
	for _, c := range [][2]int{{size, size}, {size, size + 1}, {size, api.MaxFile}, {5, 5}, {0, 0}, {0, 9}, {4, 5}} {
		mustTruncate(t, base, 2, c[0], c[1])
	}
	if now := pairsOf(base); !maps.Equal(now, was) {
		t.Error("a Truncate to as much or more changed something")
	}
	mustTruncate(t, base, 2, api.MaxFile, 13)
	mustTruncate(t, base, 2, api.MaxFile, api.MaxFile-1)
	if now := pairsOf(base); !maps.Equal(now, was) {
		t.Error("a Truncate behind all extents changed something")
	}
}

// TestTruncateShares: P17.3: the bytes ahead are laid ahead of counting less: a chunk that is both stays.
func TestTruncateShares(t *testing.T) {
	b, _ := newBook(t, someShape())
	mustWrite(t, b, 2, 0, 0, "aa")
	mustWrite(t, b, 2, 2, 2, "aabb")
	mustTruncate(t, b, 2, 6, 4)
	wantExtents(t, b, 2, 0, 2, 1, 2, 2, 1)
	wantRefs(t, b, 1, 2)
	mustTruncate(t, b, 2, 4, 3)
	wantExtents(t, b, 2, 0, 2, 1, 2, 1, 3)
	wantRefs(t, b, 1, 1, 3, 1)
}

// TestFree: P17.3: all extents go, up to the last byte that a file may have; other files' stay.
func TestFree(t *testing.T) {
	b, _ := newBook(t, someShape())
	mustWrite(t, b, 2, 0, 0, "abc")
	mustWrite(t, b, 2, 3, api.MaxFile-3, "abc")
	mustWrite(t, b, 1, 0, 0, "abc")
	mustWrite(t, b, 3, 0, 0, "abcd")
	wantRefs(t, b, 1, 3, 2, 1)
	wantErr(t, "Free", file.Free(b, 2), api.OK)
	wantExtents(t, b, 2)
	wantRefs(t, b, 1, 1, 2, 1)
	wantErr(t, "Free of none", file.Free(b, 2), api.OK)
	wantErr(t, "Free of another one", file.Free(b, 99), api.OK)
	wantErr(t, "Free", file.Free(b, 1), api.OK)
	wantErr(t, "Free", file.Free(b, 3), api.OK)
	wantRefs(t, b)
}

// TestShared: P17.8: the same bytes at the same offset of two empty files make no chunk more; what is done to one is not done to the other.
func TestShared(t *testing.T) {
	for _, bits := range []int{256, 8, 0} {
		s := someShape()
		s.Bits = bits
		b, _ := newBook(t, s)
		long := strings.Repeat("what two files share they share by chunks. ", 20)
		for _, offset := range []int{0, 7} {
			size := mustWrite(t, b, 2, 0, offset, long)
			chunks := slices.Collect(b.Chunks())
			mustWrite(t, b, 3, 0, offset, long)
			if now := slices.Collect(b.Chunks()); len(now) != len(chunks) || len(now) < 5 {
				t.Error("chunks", len(now), "of one file", len(chunks))
			}
			mustTruncate(t, b, 2, size, 9)
			wantRead(t, b, 3, size, offset, size, long)
			mustWrite(t, b, 2, 9, 0, "xyz")
			wantRead(t, b, 3, size, offset, size, long)
			wantCounted(t, b)
			wantErr(t, "Free", file.Free(b, 2), api.OK)
			wantRead(t, b, 3, size, offset, size, long)
			wantErr(t, "Free", file.Free(b, 3), api.OK)
			wantRefs(t, b)
		}
	}
}
