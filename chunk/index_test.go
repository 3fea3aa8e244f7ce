package chunk_test

import (
	"encoding/binary"
	"strings"
	"testing"

	"dedup/api"
	"dedup/chunk"
	"dedup/disk"
	"dedup/tree"
)

// dataOf is bytes that no other number has.
func dataOf(n int) string {
	return "chunk " + string(binary.BigEndian.AppendUint32(nil, uint32(n)))
}

// wideShape has room for many chunks.
func wideShape() api.Shape {
	s := someShape()
	s.Sectors, s.Pack = 4096, 16
	return s
}

// TestCompact: P15.5, P15.7, P15.8: steps of the index come to an end, and nothing else that is told changes.
func TestCompact(t *testing.T) {
	const many = 3000
	for _, bits := range []int{12, 256} {
		s := wideShape()
		s.Bits = bits
		b, d := newBook(t, s)
		for i := range many {
			mustPut(t, b, dataOf(i), i+1)
			if i%7 == 0 {
				wantErr(t, "Decr", b.Decr(i+1), api.OK)
			}
		}
		write(t, b, d)
		pairs := stateOf(b).pairs
		steps := 0
		for b.Compact() {
			steps++
			if steps > many {
				t.Fatal("Compact does not end")
			}
			wantTree(t, b, pairs)
		}
		if steps == 0 {
			t.Error("Compact of so many had nothing to do")
		}
		for i := range many {
			if i%7 > 0 {
				mustPut(t, b, dataOf(i), i+1)
			}
		}
		mustPut(t, b, dataOf(0), many+1)
	}
}

// TestCompactWithout: P15.5: without Dedup all goes on as with it.
func TestCompactWithout(t *testing.T) {
	s := wideShape()
	s.Dedup = false
	b, _ := newBook(t, s)
	for i := range 2000 {
		mustPut(t, b, "alike", i+1)
	}
	for range 100 {
		b.Compact()
	}
	mustPut(t, b, "alike", 2001)
	wantGet(t, b, 700, "alike")
}

// TestReopened: P15.1, P15.2: a new book finds what lies there, of sums that are alike too.
func TestReopened(t *testing.T) {
	for _, bits := range []int{0, 5, 256} {
		s := wideShape()
		s.Bits = bits
		b, d := newBook(t, s)
		for i := range 300 {
			mustPut(t, b, dataOf(i), i+1)
		}
		write(t, b, d)
		b, e := chunk.New(s, b.Tree(), b.Space(), d)
		if e != api.OK {
			t.Fatal("New", e)
		}
		for i := 299; i >= 0; i-- {
			mustPut(t, b, dataOf(i), i+1)
		}
		mustPut(t, b, dataOf(300), 301)
	}
}

// TestSetBack: P15.1, P15.2: behind a Set of an older tree what is there again is found again, and what is not there is not.
func TestSetBack(t *testing.T) {
	for _, bits := range []int{0, 256} {
		s := someShape()
		s.Bits = bits
		b, _ := newBook(t, s)
		mustPut(t, b, "a", 1)
		mustPut(t, b, "b", 2)
		older := b.Tree()
		wantErr(t, "Decr", b.Decr(1), api.OK)
		without := b.Tree()
		mustPut(t, b, "b", 2)
		wantErr(t, "Set", b.Set(older), api.OK)
		mustPut(t, b, "a", 1)
		mustPut(t, b, "b", 2)
		if n, _ := b.Refs(1); n != 2 {
			t.Error("Refs", n)
		}
		wantErr(t, "Set", b.Set(without), api.OK)
		mustPut(t, b, "a", 3)
		wantErr(t, "Decr", b.Decr(3), api.OK)
		wantErr(t, "Set", b.Set(older), api.OK)
		wantErr(t, "Incr behind a Set", b.Incr(2), api.OK)
		mustPut(t, b, "a", 1)
		known := b.Tree()
		other, _ := known.Put("x", "")
		wantErr(t, "Set", b.Set(other), api.OK)
		for range 2 {
			wantErr(t, "Decr behind a Set", b.Decr(1), api.OK)
		}
		wantErr(t, "Set", b.Set(known), api.OK)
		mustPut(t, b, "a", 1)
		wantErr(t, "Set", b.Set(older), api.OK)
		wantErr(t, "Decr behind a Set", b.Decr(1), api.OK)
		mustPut(t, b, "b", 2)
		mustPut(t, b, "a", 3)
	}
}

// TestSetNumber: P15.1, P15.2: the same bytes under another number are found under that one behind a Set.
func TestSetNumber(t *testing.T) {
	b, _ := newBook(t, someShape())
	mustPut(t, b, "a", 1)
	first := b.Tree()
	wantErr(t, "Decr", b.Decr(1), api.OK)
	mustPut(t, b, "a", 2)
	second := b.Tree()
	for range 2 {
		wantErr(t, "Set", b.Set(first), api.OK)
		mustPut(t, b, "a", 1)
		wantErr(t, "Set", b.Set(second), api.OK)
		mustPut(t, b, "a", 2)
	}
}

// TestSetOther: P15.1, P15.2: chunks that another book laid down are found behind a Set of its tree, also where numbers were given to other bytes.
func TestSetOther(t *testing.T) {
	s := someShape()
	d, _ := disk.New(512, 64)
	one := bookOn(t, s, treeOf(t, nil), d)
	mustPut(t, one, "common", 1)
	write(t, one, d)
	two, e := chunk.New(s, one.Tree(), one.Space(), d) // on the same space
	if e != api.OK {
		t.Fatal("New", e)
	}
	mustPut(t, two, "others", 2)
	write(t, two, d)
	wantErr(t, "Set", one.Set(two.Tree()), api.OK)
	mustPut(t, one, "others", 2)
	mustPut(t, one, "common", 1)
	mustPut(t, one, "own", 3)
	wantGet(t, one, 2, "others")

	fork := two.Fork()
	mustPut(t, fork, "left", 3)
	mustPut(t, two, "right", 3)
	write(t, two, d)
	book, e := chunk.New(s, fork.Tree(), two.Space(), d)
	if e != api.OK {
		t.Fatal("New", e)
	}
	wantErr(t, "Set", book.Set(two.Tree()), api.OK)
	mustPut(t, book, "right", 3)
	mustPut(t, book, "left", 4)
}

// TestSetTwins: P15.2, P15.7: of two chunks of equal bytes that a Set moved in, the one of the lower number is found.
func TestSetTwins(t *testing.T) {
	s := someShape()
	s.Dedup = false
	b, d := newBook(t, s)
	for i := range 4 {
		mustPut(t, b, "alike", i+1)
	}
	write(t, b, d)
	wantErr(t, "Decr", b.Decr(1), api.OK)
	s.Dedup = true
	one, e := chunk.New(s, b.Tree(), b.Space(), d)
	if e != api.OK {
		t.Fatal("New", e)
	}
	mustPut(t, one, "alike", 2)
	wantErr(t, "Decr", b.Decr(2), api.OK)
	wantErr(t, "Set", one.Set(b.Tree()), api.OK)
	mustPut(t, one, "alike", 3)
	wantErr(t, "Decr", one.Decr(3), api.OK)
	wantErr(t, "Decr", one.Decr(3), api.OK)
	mustPut(t, one, "alike", 4)
}

// TestSetRefused: P15.6: a Put that is refused behind a Set has changed nothing, what Compact tells too.
func TestSetRefused(t *testing.T) {
	b, d := newBook(t, wideShape())
	for i := range 2000 {
		mustPut(t, b, dataOf(i), i+1)
	}
	write(t, b, d)
	x, _ := b.Tree().Put("s", "none")
	x, _ = x.Delete(keyOf('c', 1))
	wantErr(t, "Set", b.Set(x), api.OK)
	was := b.Fork()
	if id, e := b.Put([]byte(strings.Repeat("n", 99))); id != 0 || e != api.ErrChunk {
		t.Error("Put", id, e)
	}
	for range 50 {
		if was.Compact() != b.Compact() {
			t.Fatal("Compact tells of a Put that was refused")
		}
	}
}

// gone is a source without some sector.
type gone struct {
	tree.Reader
	sector int
}

func (g gone) Read(n int) ([]byte, api.Errno) {
	if n == g.sector {
		return nil, api.ErrSector
	}
	return g.Reader.Read(n)
}

// laid is a book's tree as it lies on a disk of its own, and the sectors of its nodes but the root.
func laid(t *testing.T, x *tree.Tree) (*disk.Disk, int, []int) {
	t.Helper()
	d, _ := disk.New(512, 4096)
	var sectors []int
	for i := range x.Dirty() {
		sectors = append(sectors, i+1)
	}
	x, l, e := x.Place(sectors)
	if e != api.OK {
		t.Fatal("Place", e)
	}
	for _, s := range l {
		d.Write(s.N, s.Bytes)
	}
	return d, x.Root(), sectors[:len(sectors)-1]
}

// brokenBook is a book with 80 chunks, of which some containers are in memory; its own tree has other keys too.
func brokenBook(t *testing.T, dedup bool) *chunk.Book {
	t.Helper()
	s := someShape()
	s.Dedup = dedup
	b, d := newBook(t, s)
	for i := range 80 {
		mustPut(t, b, dataOf(i)+strings.Repeat("x", 40), i+1)
		if i == 60 {
			write(t, b, d)
		}
	}
	x := b.Tree()
	for i := range 40 {
		for _, prefix := range []byte{'b', 'i', 't', 'x'} {
			x, _ = x.Put(keyOf(prefix, i), strings.Repeat("v", 30))
		}
	}
	wantErr(t, "Set", b.Set(x), api.OK)
	return b
}

// TestBrokenTree: P15.1, P15.5, P15.6: whichever node can't be read: what is refused has changed nothing, and is told with ErrTree alone.
func TestBrokenTree(t *testing.T) {
	calls := map[string]func(b *chunk.Book) api.Errno{
		"Put":        func(b *chunk.Book) api.Errno { _, e := b.Put([]byte("new")); return e },
		"Put of all": func(b *chunk.Book) api.Errno { _, e := b.Put(make([]byte, roomOf)); return e },
		"Put again": func(b *chunk.Book) api.Errno {
			id, e := b.Put([]byte(dataOf(33) + strings.Repeat("x", 40)))
			if e == api.OK && b.Shape().Dedup && id != 34 {
				return api.ErrNone // stored twice
			}
			return e
		},
		"Get":        func(b *chunk.Book) api.Errno { _, e := b.Get(50); return e },
		"Refs":       func(b *chunk.Book) api.Errno { _, e := b.Refs(50); return e },
		"Incr":       func(b *chunk.Book) api.Errno { return b.Incr(50) },
		"Decr":       func(b *chunk.Book) api.Errno { return b.Decr(50) },
		"Move":       func(b *chunk.Book) api.Errno { return b.Move(3) },
		"Drop":       func(b *chunk.Book) api.Errno { return b.Drop(90) },
		"Containers": func(b *chunk.Book) api.Errno { _, e := b.Containers(); return e },
	}
	for _, dedup := range []bool{true, false} {
		whole := brokenBook(t, dedup)
		d, root, sectors := laid(t, whole.Tree())
		refused := map[string]int{}
		for _, sector := range sectors {
			for what, call := range calls {
				b := whole.Fork()
				x, e := tree.Open(512, root, gone{d, sector})
				if e != api.OK {
					t.Fatal("Open", e)
				}
				wantErr(t, "Set", b.Set(x), api.OK)
				was := stateOf(b)
				switch e := call(b); e {
				case api.OK:
					continue
				case api.ErrTree:
					refused[what]++
				case api.ErrChunk:
					if what != "Drop" {
						t.Error(what, "without", sector, e)
					}
				default:
					t.Error(what, "without", sector, e)
				}
				wantSame(t, what, b, was)
			}
			x, _ := tree.Open(512, root, gone{d, sector})
			if b, e := chunk.New(whole.Shape(), x, whole.Space(), d); b != nil || e != api.ErrTree {
				t.Error("New without", sector, e)
			}
		}
		for what := range calls {
			if refused[what] == 0 {
				t.Error(what, "was never refused")
			}
		}
		if refused["Containers"] != len(sectors) {
			t.Error("Containers was told", refused["Containers"], "of", len(sectors))
		}
	}
}

// TestTreeAheadOfChunk: P15.1: where a node can't be read and a record is none, ErrTree comes first.
func TestTreeAheadOfChunk(t *testing.T) {
	x := brokenBook(t, true).Tree()
	x, _ = x.Put("c", "none")
	d, root, sectors := laid(t, x)
	b, _ := newBook(t, someShape())
	for _, sector := range sectors {
		x, _ := tree.Open(512, root, gone{d, sector})
		if _, e := chunk.New(someShape(), x, b.Space(), d); e != api.ErrTree {
			t.Error("New without", sector, e)
		}
		x, _ = tree.Open(512, root, gone{d, sector})
		wantErr(t, "Set", b.Set(x), api.OK)
		if l, e := b.Containers(); len(l) != 0 || e != api.ErrTree {
			t.Error("Containers without", sector, e)
		}
	}
	x, _ = tree.Open(512, root, d)
	if _, e := chunk.New(someShape(), x, b.Space(), d); e != api.ErrChunk {
		t.Error("New", e)
	}
}
