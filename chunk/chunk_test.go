package chunk_test

import (
	"maps"
	"math"
	"slices"
	"strings"
	"testing"

	"dedup/api"
	"dedup/chunk"
	"dedup/disk"
	"dedup/space"
	"dedup/tree"
)

// someShape is one with containers of two sectors: a chunk has 984 bytes at most.
func someShape() api.Shape {
	return api.Shape{Sector: 512, Sectors: 64, Journal: 4, Pack: 2, Cut: api.Cut{Min: 8, Normal: 16, Max: 64}, Bits: 256, Dedup: true}
}

// roomOf is how many bytes a chunk of someShape may have.
const roomOf = 2*512 - 40

// treeOf is a tree of keys and values.
func treeOf(t *testing.T, l map[string]string) *tree.Tree {
	t.Helper()
	x, _ := tree.New(512)
	for key, value := range l {
		y, e := x.Put(key, value)
		if e != api.OK {
			t.Fatalf("a tree with %q: %d", key, e)
		}
		x = y
	}
	return x
}

// bookOn is a book on a tree, the data sectors of its shape and a disk.
func bookOn(t *testing.T, s api.Shape, x *tree.Tree, r tree.Reader) *chunk.Book {
	t.Helper()
	sp, _ := space.New(2+s.Journal, s.Sectors-2-s.Journal)
	b, e := chunk.New(s, x, sp, r)
	if e != api.OK || b == nil {
		t.Fatal("New", e)
	}
	return b
}

// newBook is a book without chunks on a disk of its own.
func newBook(t *testing.T, s api.Shape) (*chunk.Book, *disk.Disk) {
	t.Helper()
	d, _ := disk.New(s.Sector, s.Sectors)
	return bookOn(t, s, treeOf(t, nil), d), d
}

// mustPut puts a chunk, and holds its number.
func mustPut(t *testing.T, b *chunk.Book, data string, want int) {
	t.Helper()
	if id, e := b.Put([]byte(data)); id != want || e != api.OK {
		t.Fatalf("Put of %d bytes: %d %d, want %d", len(data), id, e, want)
	}
}

// wantGet holds a chunk's bytes.
func wantGet(t *testing.T, b *chunk.Book, id int, want string) {
	t.Helper()
	if data, e := b.Get(id); string(data) != want || e != api.OK {
		t.Errorf("Get(%d): %q %d, want %q", id, data, e, want)
	}
}

// wantNoGet holds why a chunk is not told.
func wantNoGet(t *testing.T, b *chunk.Book, id int, want api.Errno) {
	t.Helper()
	if data, e := b.Get(id); len(data) != 0 || e != want {
		t.Errorf("Get(%d): %q %d, want %d", id, data, e, want)
	}
}

// wantErr holds what a call told.
func wantErr(t *testing.T, what string, got, want api.Errno) {
	t.Helper()
	if got != want {
		t.Error(what, got, "want", want)
	}
}

// wantContainers holds all containers.
func wantContainers(t *testing.T, b *chunk.Book, want ...api.Container) {
	t.Helper()
	if l, e := b.Containers(); e != api.OK || !slices.Equal(l, want) {
		t.Error("Containers", l, e, "want", want)
	}
}

// write takes a book's sectors, writes them, and tells which ones they were.
func write(t *testing.T, b *chunk.Book, d *disk.Disk) []int {
	t.Helper()
	var l []int
	for _, s := range b.Take() {
		wantErr(t, "Write", d.Write(s.N, s.Bytes), api.OK)
		l = append(l, s.N)
	}
	return l
}

// state is all that can be told of a book without changing it.
type state struct {
	pairs      map[string]string
	bits       string
	waiting    int
	containers []api.Container
	chunks     []api.Chunk
	bytes      []string
	sectors    []api.Sector
	compact    bool
}

func stateOf(b *chunk.Book) state {
	s := state{pairs: maps.Collect(b.Tree().Scan("", "")), bits: b.Space().Bits(), waiting: b.Space().Waiting()}
	s.containers, _ = b.Containers()
	s.chunks = slices.Collect(b.Chunks())
	for _, x := range s.chunks {
		data, e := b.Get(x.Id)
		s.bytes = append(s.bytes, string(data)+numbers(int(e)))
	}
	s.sectors = b.Fork().Take()
	s.compact = b.Fork().Compact()
	return s
}

// wantSame holds that nothing was changed.
func wantSame(t *testing.T, what string, b *chunk.Book, was state) {
	t.Helper()
	now := stateOf(b)
	same := maps.Equal(now.pairs, was.pairs) && now.bits == was.bits && now.waiting == was.waiting && now.compact == was.compact &&
		slices.Equal(now.containers, was.containers) && slices.Equal(now.chunks, was.chunks) && slices.Equal(now.bytes, was.bytes)
	if !same {
		t.Error(what, "changed", was, "to", now)
	}
	wantSectors(t, now.sectors, was.sectors)
}

// TestExample: P15.2, P15.3: the chapter's example: all sums are alike.
func TestExample(t *testing.T) {
	s := someShape()
	s.Bits = 0
	b, _ := newBook(t, s)
	mustPut(t, b, "a", 1)
	mustPut(t, b, "b", 2)
	mustPut(t, b, "a", 1)
	if n, e := b.Refs(1); n != 2 || e != api.OK {
		t.Error("Refs", n, e)
	}
	wantErr(t, "Decr", b.Decr(1), api.OK)
	wantGet(t, b, 1, "a")
	wantErr(t, "Decr", b.Decr(1), api.OK)
	wantNoGet(t, b, 1, api.ErrChunk)
	wantGet(t, b, 2, "b")
}

// TestNew: P15.1: what a book is on, which it uses, and that no container is open.
func TestNew(t *testing.T) {
	s := someShape()
	d, _ := disk.New(512, 64)
	sp, _ := space.New(6, 58)
	x := treeOf(t, map[string]string{"i": "1", "d": "", "l": "2", "b": "c"})
	b, e := chunk.New(s, x, sp, d)
	if e != api.OK || b.Tree() != x || b.Space() != sp || b.Shape() != s {
		t.Fatal("New", e, b.Shape())
	}
	wantContainers(t, b)
	mustPut(t, b, "one", 1)
	if sp.Used() != 2 || b.Tree() == x {
		t.Error("the space is used, and the tree another one", sp.Used())
	}
	if n, _ := x.Count(); n != 4 {
		t.Error("the tree that was handed in has", n)
	}
	write(t, b, d)
	b, e = chunk.New(s, b.Tree(), sp, d)
	if e != api.OK {
		t.Fatal("New again", e)
	}
	wantContainers(t, b, api.Container{Id: 1, First: 6, Sectors: 2, Slots: 1, Live: 1, Bytes: 3})
	mustPut(t, b, "two", 2)
	wantContainers(t, b, api.Container{Id: 1, First: 6, Sectors: 2, Slots: 1, Live: 1, Bytes: 3},
		api.Container{Id: 2, First: 8, Sectors: 2, Slots: 1, Live: 1, Bytes: 3, Open: true})
}

// TestNewRefused: P15.1: shapes, what is nil, and which error comes first.
func TestNewRefused(t *testing.T) {
	d, _ := disk.New(512, 64)
	sp, _ := space.New(6, 58)
	x := treeOf(t, nil)
	wrong := someShape()
	wrong.Pack = 1
	for i, c := range []struct {
		shape api.Shape
		tree  *tree.Tree
		space *space.Space
		r     tree.Reader
		want  api.Errno
	}{
		{wrong, x, sp, d, api.ErrShape},
		{api.Shape{}, nil, nil, nil, api.ErrShape},
		{someShape(), nil, sp, d, api.ErrArg},
		{someShape(), x, nil, d, api.ErrArg},
		{someShape(), x, sp, nil, api.ErrArg},
		{someShape(), nil, nil, nil, api.ErrArg},
		{someShape(), treeOf(t, map[string]string{"c": ""}), sp, nil, api.ErrArg},
	} {
		if b, e := chunk.New(c.shape, c.tree, c.space, c.r); b != nil || e != c.want {
			t.Error("New", i, e, "want", c.want)
		}
	}
}

// chunkValue is a chunk's record.
func chunkValue(container, offset, length, refs int) string {
	return strings.Repeat("s", 32) + numbers(container, offset, length, refs)
}

// TestRecords: P15.1, P15.5 with the words: which keys and values are records, for New and for Containers.
func TestRecords(t *testing.T) {
	const most = math.MaxUint32
	right := map[string]string{keyOf('c', 7): chunkValue(3, 24, 5, 1), keyOf('k', 3): numbers(6, 4, 1)}
	for _, c := range []struct {
		key, value string
		want       api.Errno
	}{
		{keyOf('c', 1), chunkValue(1, 0, 1, 1), api.OK},
		{keyOf('c', api.MaxNumber), chunkValue(api.MaxNumber, most, most, api.MaxNumber), api.OK},
		{keyOf('c', 1), chunkValue(1, 0, 1, 0), api.ErrChunk},
		{keyOf('c', 1), chunkValue(1, 0, 0, 1), api.ErrChunk},
		{keyOf('c', 1), chunkValue(api.MaxNumber+1, 0, 1, 1), api.ErrChunk},
		{keyOf('c', 1), chunkValue(0, 0, 1, 1), api.ErrChunk},
		{keyOf('c', 1), chunkValue(0, 24, 10, 2), api.ErrChunk},
		{keyOf('c', 1), chunkValue(most, 0, 1, 1), api.ErrChunk},
		{keyOf('c', 1), chunkValue(1, 0, 1, api.MaxNumber+1), api.ErrChunk},
		{keyOf('c', 1), chunkValue(1, 0, 1, 1)[1:], api.ErrChunk},
		{keyOf('c', 1), chunkValue(1, 0, 1, 1) + "1", api.ErrChunk},
		{keyOf('c', 1), "", api.ErrChunk},
		{keyOf('c', 0), chunkValue(1, 0, 1, 1), api.ErrChunk},
		{keyOf('c', api.MaxNumber+1), chunkValue(1, 0, 1, 1), api.ErrChunk},
		{keyOf('c', -1), chunkValue(1, 0, 1, 1), api.ErrChunk},
		{keyOf('c', 1<<32+1), chunkValue(1, 0, 1, 1), api.ErrChunk},
		{keyOf('c', 1)[:8], chunkValue(1, 0, 1, 1), api.ErrChunk},
		{keyOf('c', 1) + "a", chunkValue(1, 0, 1, 1), api.ErrChunk},
		{"c", chunkValue(1, 0, 1, 1), api.ErrChunk},
		{keyOf('k', 1), numbers(0, 0, 0), api.OK},
		{keyOf('k', api.MaxNumber), numbers(most, most, most), api.OK},
		{keyOf('k', 1), numbers(8, 2, 3), api.ErrChunk},
		{keyOf('k', 1), numbers(8, most-1, most), api.ErrChunk},
		{keyOf('k', 1), numbers(8, 2), api.ErrChunk},
		{keyOf('k', 1), numbers(8, 2, 1, 0), api.ErrChunk},
		{keyOf('k', 0), numbers(8, 2, 1), api.ErrChunk},
		{keyOf('k', api.MaxNumber+1), numbers(8, 2, 1), api.ErrChunk},
		{keyOf('k', -1), numbers(8, 2, 1), api.ErrChunk},
		{keyOf('k', 1) + "\x00", numbers(8, 2, 1), api.ErrChunk},
		{"k", numbers(8, 2, 1), api.ErrChunk},
		{"kab", "", api.ErrChunk},
		{keyOf('d', 1), "", api.OK},
		{"bzz", "", api.OK},
		{"j", "", api.OK},
		{"l", "", api.OK},
		{"s", "none", api.OK}, // the counters are not looked at yet
	} {
		l := maps.Clone(right)
		l[c.key] = c.value
		x := treeOf(t, l)
		d, _ := disk.New(512, 64)
		sp, _ := space.New(6, 58)
		b, e := chunk.New(someShape(), x, sp, d)
		if e != c.want || (b == nil) != (c.want != api.OK) {
			t.Errorf("New with %q %q: %d", c.key, c.value, e)
		}
		b = bookOn(t, someShape(), treeOf(t, right), d)
		wantErr(t, "Set", b.Set(x), api.OK)
		if k, e := b.Containers(); e != c.want || len(k) > 0 != (c.want == api.OK) {
			t.Errorf("Containers with %q %q: %v %d", c.key, c.value, k, e)
		}
		count := 1
		if c.key[0] == 'c' && c.want == api.OK {
			count = 2
		}
		if l := slices.Collect(b.Chunks()); len(l) != count || !slices.ContainsFunc(l, func(k api.Chunk) bool { return k.Id == 7 }) {
			t.Errorf("Chunks with %q %q: %v", c.key, c.value, l)
		}
	}
}

// TestSet: P15.1: another tree, and none.
func TestSet(t *testing.T) {
	b, _ := newBook(t, someShape())
	mustPut(t, b, "a", 1)
	was := b.Tree()
	other, _ := was.Put("x", "1")
	wantErr(t, "Set", b.Set(other), api.OK)
	if b.Tree() != other {
		t.Error("Tree")
	}
	wantErr(t, "Set of none", b.Set(nil), api.ErrArg)
	if b.Tree() != other {
		t.Error("Tree behind Set of none")
	}
	mustPut(t, b, "a", 1)
	if value, _, _ := b.Tree().Get("x"); value != "1" {
		t.Error("the other key has", value)
	}
	wantErr(t, "Set back", b.Set(was), api.OK)
	if n, _ := b.Refs(1); n != 1 {
		t.Error("Refs", n)
	}
}

// TestTake: P15.5: which sectors, in which order; what was closed is read from the source then, what is open is not.
func TestTake(t *testing.T) {
	b, d := newBook(t, someShape())
	if l := b.Take(); len(l) != 0 {
		t.Error("Take of nothing", l)
	}
	big := strings.Repeat("b", 600)
	mustPut(t, b, "a", 1)
	if got := write(t, b, d); !slices.Equal(got, []int{6}) {
		t.Error("Take", got)
	}
	if got := write(t, b, d); len(got) != 0 {
		t.Error("Take again", got)
	}
	mustPut(t, b, big, 2)                      // fills the second sector too
	mustPut(t, b, strings.Repeat("c", 500), 3) // closes container 1
	mustPut(t, b, strings.Repeat("d", 980), 4) // closes container 2
	fork := b.Fork()
	taken := b.Take()
	var got []int
	for _, s := range taken {
		got = append(got, s.N)
		if len(s.Bytes) != 512 {
			t.Error("a sector of", len(s.Bytes))
		}
	}
	if !slices.Equal(got, []int{6, 7, 8, 9, 10, 11}) {
		t.Error("Take", got)
	}
	for id, want := range map[int]api.Errno{1: api.OK, 2: api.ErrChunk, 3: api.ErrChunk, 4: api.OK} {
		if _, e := b.Get(id); e != want {
			t.Error("Get of", id, "of which the source has nothing yet", e, "want", want)
		}
		if _, e := fork.Get(id); e != api.OK {
			t.Error("Get of", id, "of a fork that was not taken", e)
		}
	}
	wantSectors(t, fork.Take(), taken)
	for _, s := range taken {
		d.Write(s.N, s.Bytes)
	}
	for id, want := range map[int]string{1: "a", 2: big, 3: strings.Repeat("c", 500), 4: strings.Repeat("d", 980)} {
		wantGet(t, b, id, want)
	}
	if got := write(t, b, d); len(got) != 0 {
		t.Error("Take behind all", got)
	}
	taken[0].Bytes[0]++ // an answer is the caller's own
	wantGet(t, b, 4, strings.Repeat("d", 980))
}

// TestTakeLetGo: P15.5 with the words: a container that was let go is not written any more.
func TestTakeLetGo(t *testing.T) {
	b, _ := newBook(t, someShape())
	mustPut(t, b, strings.Repeat("a", roomOf), 1)
	mustPut(t, b, "b", 2)
	wantErr(t, "Decr", b.Decr(1), api.OK)
	l := b.Take()
	if len(l) != 1 || l[0].N != 8 {
		t.Error("Take", l)
	}
	if b.Space().Waiting() != 2 || b.Space().Used() != 2 {
		t.Error("space", b.Space().Waiting(), b.Space().Used())
	}
}

// TestChunksAgain: P15.5 with R5: Chunks begins anew, may be stopped, and is as the book is when it is ranged over.
func TestChunksAgain(t *testing.T) {
	b, _ := newBook(t, someShape())
	all := b.Chunks()
	for i := range 5 {
		mustPut(t, b, strings.Repeat("x", i+1), i+1)
	}
	for range 2 {
		n := 0
		for x := range all {
			n++
			if x.Id != n || x.Length != n || x.Refs != 1 {
				t.Error("Chunks", x)
			}
			if n == 3 {
				break
			}
		}
	}
	n := 0
	for x := range all {
		n++
		if x.Id == 1 {
			for id := range 5 {
				wantErr(t, "Decr", b.Decr(id+1), api.OK)
			}
			mustPut(t, b, "new", 6)
		}
	}
	if n != 5 {
		t.Error("Chunks that were there went over", n)
	}
	if l := slices.Collect(all); len(l) != 1 || l[0].Id != 6 {
		t.Error("Chunks behind it", l)
	}
}

// TestNoBook: P15.6: of a nil Book.
func TestNoBook(t *testing.T) {
	var none *chunk.Book
	for _, b := range []*chunk.Book{none, {}} {
		id, e := b.Put([]byte("a"))
		if id != 0 || e != api.ErrClosed {
			t.Error("Put", id, e)
		}
		wantNoGet(t, b, 1, api.ErrClosed)
		if n, e := b.Refs(1); n != 0 || e != api.ErrClosed {
			t.Error("Refs", n, e)
		}
		wantErr(t, "Incr", b.Incr(1), api.ErrClosed)
		wantErr(t, "Decr", b.Decr(1), api.ErrClosed)
		wantErr(t, "Move", b.Move(1), api.ErrClosed)
		wantErr(t, "Drop", b.Drop(1), api.ErrClosed)
		wantErr(t, "Set", b.Set(nil), api.ErrClosed)
		wantErr(t, "Set", b.Set(treeOf(t, nil)), api.ErrClosed)
		if l, e := b.Containers(); len(l) != 0 || e != api.ErrClosed {
			t.Error("Containers", l, e)
		}
		if b.Tree() != nil || b.Space() != nil || b.Shape() != (api.Shape{}) || b.Fork() != nil || b.Compact() || len(b.Take()) != 0 {
			t.Error("what a nil Book tells")
		}
		for x := range b.Chunks() {
			t.Error("Chunks", x)
		}
	}
}
