package file_test

import (
	"maps"
	"math/rand"
	"slices"
	"testing"

	"dedup/api"
	"dedup/chunk"
	"dedup/cut"
	"dedup/disk"
	"dedup/extent"
	"dedup/file"
)

// wantPieces holds that bytes lie from an offset on as the pieces into which they are cut.
func wantPieces(t *testing.T, b *chunk.Book, ino, offset int, data string) {
	t.Helper()
	lengths, e := cut.Lengths(b.Shape().Cut, []byte(data))
	wantErr(t, "Lengths", e, api.OK)
	l, e := extent.Over(b.Tree(), ino, offset, offset+len(data))
	if e != api.OK || len(l) != len(lengths) || len(l) < 3 {
		t.Fatal("extents", l, e, "pieces", lengths)
	}
	for i, n := range lengths {
		got, e := b.Get(l[i].Chunk)
		if l[i].Offset != offset || l[i].Length != n || string(got) != data[:n] || e != api.OK {
			t.Errorf("piece %d: %v %q %d, want %q at %d", i, l[i], got, e, data[:n], offset)
		}
		offset, data = offset+n, data[n:]
	}
}

// content is a file in plain: its bytes, and its extents by the chapter's words.
type content struct {
	bytes   []byte
	extents []api.Extent
}

// plain is files and chunks by the chapter's words, looked through one by one.
type plain struct {
	shape  api.Shape
	files  map[int]*content
	chunks map[int]string
	refs   map[int]int
	next   int
}

// put is the number of a chunk with these bytes, which is counted once more.
func (p *plain) put(data string) int {
	for _, id := range slices.Sorted(maps.Keys(p.chunks)) {
		if p.shape.Dedup && p.chunks[id] == data {
			p.refs[id]++
			return id
		}
	}
	id := p.next
	p.next++
	p.chunks[id], p.refs[id] = data, 1
	return id
}

// decr counts a chunk once less.
func (p *plain) decr(id int) {
	if p.refs[id]--; p.refs[id] == 0 {
		delete(p.refs, id)
		delete(p.chunks, id)
	}
}

// cutOut takes the extents that have a byte of a range from a file.
func (c *content) cutOut(from, to int) []api.Extent {
	var gone, left []api.Extent
	for _, x := range c.extents {
		if x.Offset < to && x.Offset+x.Length > from {
			gone = append(gone, x)
		} else {
			left = append(left, x)
		}
	}
	c.extents = left
	return gone
}

// lay lays bytes of a file.
func (p *plain) lay(c *content, from, to int) {
	lengths, _ := cut.Lengths(p.shape.Cut, c.bytes[from:to])
	for _, n := range lengths {
		c.extents = append(c.extents, api.Extent{Offset: from, Length: n, Chunk: p.put(string(c.bytes[from : from+n]))})
		from += n
	}
	slices.SortFunc(c.extents, func(a, b api.Extent) int { return a.Offset - b.Offset })
}

// grow lets a file have at least so many bytes.
func (c *content) grow(size int) {
	if size > len(c.bytes) {
		c.bytes = append(c.bytes, make([]byte, size-len(c.bytes))...)
	}
}

func (p *plain) write(c *content, offset int, data string) {
	if data == "" {
		return
	}
	end := offset + len(data)
	c.grow(end)
	copy(c.bytes[offset:], data)
	gone := c.cutOut(offset, end)
	from, to := offset, end
	for _, x := range gone {
		from, to = min(from, x.Offset), max(to, x.Offset+x.Length)
	}
	p.lay(c, from, to)
	for _, x := range gone {
		p.decr(x.Chunk)
	}
}

func (p *plain) truncate(c *content, to int) {
	if to >= len(c.bytes) {
		c.grow(to)
		return
	}
	c.bytes = slices.Clone(c.bytes[:to]) // so that what grows behind it is 0
	gone := c.cutOut(to, api.MaxFile)
	if len(gone) > 0 && gone[0].Offset < to {
		p.lay(c, gone[0].Offset, to)
	}
	for _, x := range gone {
		p.decr(x.Chunk)
	}
}

// wantAsPlain holds files and chunks of a book against the plain ones.
func wantAsPlain(t *testing.T, b *chunk.Book, p *plain, r *rand.Rand) {
	t.Helper()
	for ino, c := range p.files {
		size := len(c.bytes)
		if l, e := extent.All(b.Tree(), ino); e != api.OK || !slices.Equal(l, c.extents) {
			t.Fatal("extents of", ino, l, e, "want", c.extents)
		}
		wantRead(t, b, ino, size, 0, size, string(c.bytes))
		from := r.Intn(size + 2)
		n := r.Intn(size + 2)
		wantRead(t, b, ino, size, from, n, string(c.bytes[min(from, size):min(from+n, size)]))
		wantErr(t, "Right", file.Right(b, ino, size), api.OK)
	}
	refs := map[int]int{}
	for x := range b.Chunks() {
		refs[x.Id] = x.Refs
		if x.Length != len(p.chunks[x.Id]) {
			t.Fatal("chunk", x, "want", len(p.chunks[x.Id]))
		}
	}
	if !maps.Equal(refs, p.refs) {
		t.Fatal("chunks", refs, "want", p.refs)
	}
	wantCounted(t, b)
	wantErr(t, "extents", extent.Right(b.Tree()), api.OK)
}

// someData is bytes by chance: of few kinds, or what some file has already.
func (p *plain) someData(r *rand.Rand) string {
	if c := p.files[1+r.Intn(len(p.files))]; len(c.bytes) > 0 && r.Intn(3) == 0 {
		from := r.Intn(len(c.bytes))
		return string(c.bytes[from:min(len(c.bytes), from+r.Intn(200))])
	}
	data := make([]byte, r.Intn(1+r.Intn(150)))
	kinds := 1 + r.Intn(256)
	for i := range data {
		data[i] = byte(r.Intn(kinds))
	}
	return string(data)
}

// step does something by chance to both.
func (p *plain) step(t *testing.T, b *chunk.Book, d *disk.Disk, r *rand.Rand) {
	t.Helper()
	ino := 1 + r.Intn(len(p.files))
	c := p.files[ino]
	size := len(c.bytes)
	switch r.Intn(10) {
	case 0, 1:
		to := r.Intn(size + 20)
		mustTruncate(t, b, ino, size, to)
		p.truncate(c, to)
	case 2:
		if r.Intn(4) == 0 {
			wantErr(t, "Free", file.Free(b, ino), api.OK)
			p.truncate(c, 0)
		}
	case 3:
		written(t, b, d)
	case 4:
		b.Compact()
	default:
		offset, data := r.Intn(size+30), p.someData(r)
		mustWrite(t, b, ino, size, offset, data)
		p.write(c, offset, data)
	}
}

// TestAsPlain: P17.1 to P17.3, P17.6 to P17.8: whatever is written, truncated and freed, each file is plain bytes, its extents and chunks are those of the words, counted; with whatever shape.
func TestAsPlain(t *testing.T) {
	r := rand.New(rand.NewSource(17))
	cuts := []api.Cut{{Min: 1, Normal: 16, Max: 16}, {Min: 4, Normal: 16, Max: 128, Seed: 5}, {Min: 16, Normal: 32, Max: 64, Seed: 1 << 63}, {Min: 64, Normal: 64, Max: 512}}
	for i := range 32 {
		s := api.Shape{Sector: 512, Sectors: 2048, Journal: 4, Pack: 2 + r.Intn(4), Cut: cuts[i%len(cuts)], Bits: []int{0, 8, 256}[r.Intn(3)], Dedup: i%3 > 0}
		b, d := newBook(t, s)
		p := &plain{shape: s, files: map[int]*content{}, chunks: map[int]string{}, refs: map[int]int{}, next: 1}
		for ino := range 4 {
			p.files[ino+1] = &content{}
		}
		for range 60 {
			p.step(t, b, d, r)
			wantAsPlain(t, b, p, r)
			if r.Intn(15) == 0 { // as a mount finds it
				written(t, b, d)
				other, e := chunk.New(s, b.Tree(), b.Space(), d)
				wantErr(t, "New", e, api.OK)
				b = other
			}
		}
	}
}

// TestEnds: P17.6: at the end of what a file may have: the last bytes are written, read, truncated.
func TestEnds(t *testing.T) {
	s := someShape()
	b, _ := newBook(t, s)
	p := &plain{shape: s, files: map[int]*content{1: {}}, chunks: map[int]string{}, refs: map[int]int{}, next: 1}
	c := p.files[1]
	for _, w := range []struct {
		offset int
		data   string
	}{{api.MaxFile - 1, "z"}, {api.MaxFile - 40, "a text of forty bytes, no more, no less."}, {api.MaxFile - 9, "123"}, {0, "begin"}, {api.MaxFile / 2, "middle"}} {
		mustWrite(t, b, 1, len(c.bytes), w.offset, w.data)
		p.write(c, w.offset, w.data)
		r := rand.New(rand.NewSource(int64(w.offset)))
		wantAsPlain(t, b, p, r)
	}
	for _, to := range []int{api.MaxFile, api.MaxFile - 1, api.MaxFile - 8, api.MaxFile - 40, api.MaxFile - 41, api.MaxFile/2 + 3, 3, api.MaxFile, 0} {
		mustTruncate(t, b, 1, len(c.bytes), to)
		p.truncate(c, to)
		wantAsPlain(t, b, p, rand.New(rand.NewSource(int64(to))))
	}
}

// TestWhole: P17.2, P17.6: a file of as many bytes as it may have, written at once.
func TestWhole(t *testing.T) {
	s := api.Shape{Sector: 4096, Sectors: 1024, Journal: 4, Pack: 32, Cut: api.Cut{Min: 2048, Normal: 8192, Max: 65536}, Bits: 256, Dedup: true}
	b, d := newBook(t, s)
	data := make([]byte, api.MaxFile)
	rand.New(rand.NewSource(9)).Read(data)
	size := mustWrite(t, b, 5, 0, 0, string(data))
	written(t, b, d)
	wantErr(t, "Right", file.Right(b, 5, size), api.OK)
	if got, e := file.Read(b, 5, size, 0, size); got != string(data) || e != api.OK {
		t.Error("Read", len(got), e)
	}
	mustWrite(t, b, 5, size, 1000, "xyz")
	copy(data[1000:], "xyz")
	if got, e := file.Read(b, 5, size, 7, size); got != string(data[7:]) || e != api.OK {
		t.Error("Read", len(got), e)
	}
	wantCounted(t, b)
}
