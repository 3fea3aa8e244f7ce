package clean_test

import (
	"encoding/binary"
	"maps"
	"math"
	"slices"
	"strings"
	"testing"

	"dedup/api"
	"dedup/chunk"
	"dedup/clean"
	"dedup/disk"
	"dedup/space"
	"dedup/tree"
)

// roomOf is how many bytes a chunk of someShape may have: such a one fills a container.
const roomOf = 2*512 - 40

// someShape is one of so many sectors, six of which are no data, with containers of two.
func someShape(sectors int) api.Shape {
	return api.Shape{Sector: 512, Sectors: sectors, Journal: 4, Pack: 2, Cut: api.Cut{Min: 8, Normal: 16, Max: 64}, Bits: 256, Dedup: true}
}

// newBook is a book without chunks on a disk of its own.
func newBook(t *testing.T, s api.Shape) (*chunk.Book, *disk.Disk) {
	t.Helper()
	d, _ := disk.New(s.Sector, s.Sectors)
	x, _ := tree.New(s.Sector)
	sp, _ := space.New(2+s.Journal, s.Sectors-2-s.Journal)
	b, e := chunk.New(s, x, sp, d)
	if e != api.OK {
		t.Fatal("New", e)
	}
	return b, d
}

// put puts chunks of these lengths, each of bytes of its own.
func put(t *testing.T, b *chunk.Book, lengths ...int) {
	t.Helper()
	for _, n := range lengths {
		next := 1
		for x := range b.Chunks() {
			next = max(next, x.Id+1)
		}
		data := []byte(strings.Repeat(string(rune('A'+next%26)), n))
		if id, e := b.Put(data); id < next || e != api.OK {
			t.Fatal("Put of", n, "bytes", id, e)
		}
	}
}

// decr lets chunks be gone that were referred to once.
func decr(t *testing.T, b *chunk.Book, ids ...int) {
	t.Helper()
	for _, id := range ids {
		if e := b.Decr(id); e != api.OK {
			t.Fatal("Decr", id, e)
		}
	}
}

// write lays a book's sectors down.
func write(b *chunk.Book, d *disk.Disk) {
	for _, s := range b.Take() {
		d.Write(s.N, s.Bytes)
	}
}

// again is a book on what another one was on: no container is open in it.
func again(t *testing.T, b *chunk.Book, d *disk.Disk) *chunk.Book {
	t.Helper()
	write(b, d)
	c, e := chunk.New(b.Shape(), b.Tree(), b.Space(), d)
	if e != api.OK {
		t.Fatal("New", e)
	}
	return c
}

// contents is what Get and Refs tell of all chunks.
func contents(b *chunk.Book) map[int]string {
	l := map[int]string{}
	for x := range b.Chunks() {
		data, e := b.Get(x.Id)
		refs, why := b.Refs(x.Id)
		l[x.Id] = string(data) + numbers(int(e), refs, int(why))
	}
	return l
}

// numbers is numbers of 32 bits, one behind the other.
func numbers(l ...int) string {
	var b []byte
	for _, n := range l {
		b = binary.BigEndian.AppendUint32(b, uint32(n))
	}
	return string(b)
}

// keyOf is the key of a prefix and a number.
func keyOf(prefix byte, n int) string {
	return string(binary.BigEndian.AppendUint64([]byte{prefix}, uint64(n)))
}

// wantVictim holds the next victim (0: none), and how many slots are dead.
func wantVictim(t *testing.T, what string, b *chunk.Book, want, dead int) {
	t.Helper()
	if id, is := clean.Victim(b); id != want || is != (want > 0) {
		t.Error(what, "Victim", id, is, "want", want)
	}
	if n := clean.Dead(b); n != dead {
		t.Error(what, "Dead", n, "want", dead)
	}
}

// wantStep holds what a step tells, and that chunks tell the same behind it.
func wantStep(t *testing.T, what string, b *chunk.Book, want api.Cleaned, did bool, why api.Errno) {
	t.Helper()
	was := contents(b)
	if got, is, e := clean.Step(b); got != want || is != did || e != why {
		t.Error(what, "Step", got, is, e, "want", want, did, why)
	}
	if !maps.Equal(contents(b), was) {
		t.Error(what, "chunks are other ones")
	}
}

// wantRun holds what a run tells.
func wantRun(t *testing.T, what string, b *chunk.Book, most int, why api.Errno, want ...api.Cleaned) {
	t.Helper()
	if l, e := clean.Run(b, most); !slices.Equal(l, want) || e != why {
		t.Error(what, "Run", l, e, "want", want, why)
	}
}

// wantContainers holds all containers.
func wantContainers(t *testing.T, b *chunk.Book, want ...api.Container) {
	t.Helper()
	if l, e := b.Containers(); e != api.OK || !slices.Equal(l, want) {
		t.Error("Containers", l, e, "want", want)
	}
}

// TestExample: P22.2: the chapter's example.
func TestExample(t *testing.T) {
	b, _ := newBook(t, someShape(64))
	put(t, b, 10, 20, 30, roomOf-60)
	wantStep(t, "nothing is dead", b, api.Cleaned{}, false, api.OK)
	decr(t, b, 2)
	wantStep(t, "one is dead", b, api.Cleaned{Container: 1, Moved: 2, Bytes: 40}, true, api.OK)
	wantContainers(t, b, api.Container{Id: 2, First: 8, Sectors: 2, Slots: 3, Live: 3, Bytes: roomOf - 20, Open: true})
	wantStep(t, "then", b, api.Cleaned{}, false, api.OK)
}

// TestVictim: P22.1: the one with the least live bytes, of several the least number; none that is open, or has no dead slot.
func TestVictim(t *testing.T) {
	b, _ := newBook(t, someShape(64))
	wantVictim(t, "without chunks", b, 0, 0)
	put(t, b, 500, 400, 550, 400, 600, 200, roomOf, 10, 20) // in the containers 1, 2, 3, 4 and 5
	wantVictim(t, "without dead ones", b, 0, 0)
	decr(t, b, 8)
	wantVictim(t, "dead in the open one", b, 0, 0)
	decr(t, b, 1)
	wantVictim(t, "400 are live", b, 1, 1)
	decr(t, b, 3)
	wantVictim(t, "400 are live twice", b, 1, 2)
	decr(t, b, 5)
	wantVictim(t, "200 are live", b, 3, 3)
	decr(t, b, 7) // its container goes with it
	wantVictim(t, "one is let go", b, 3, 3)
	decr(t, b, 6)
	wantVictim(t, "400 again", b, 1, 2)
	decr(t, b, 2, 4)
	wantVictim(t, "none is left", b, 0, 0)
}

// TestVictimOfMany: P22.1: of as many bytes the least number, wherever it stands; Dead counts all slots.
func TestVictimOfMany(t *testing.T) {
	b, d := newBook(t, someShape(64))
	put(t, b, 200, 200, 100, 100, 100, 100, 300, 300, 50, 50, 50, 30, 900)
	decr(t, b, 1, 2, 3)
	b = again(t, b, d)
	l, _ := b.Containers()
	if len(l) != 3 || l[0].Slots != 6 || l[0].Live != 3 {
		t.Fatal("Containers", l)
	}
	wantVictim(t, "one", b, 1, 3)
	decr(t, b, 7, 8, 12) // 150 are live of 2
	wantVictim(t, "two", b, 2, 6)
	decr(t, b, 5, 6) // 100 are live of 1
	wantVictim(t, "the first one again", b, 1, 8)
	decr(t, b, 9) // 100 each
	wantVictim(t, "as many bytes", b, 1, 9)
}

// TestStep: P22.2: live chunks are moved by their numbers; the container is gone, its sectors wait.
func TestStep(t *testing.T) {
	b, d := newBook(t, someShape(64))
	put(t, b, 100, 200, 300, 100, 900)
	b.Incr(3)
	decr(t, b, 1)
	write(b, d)
	wantStep(t, "a step", b, api.Cleaned{Container: 1, Moved: 3, Bytes: 600}, true, api.OK)
	wantContainers(t, b, api.Container{Id: 2, First: 8, Sectors: 2, Slots: 1, Live: 1, Bytes: 900},
		api.Container{Id: 3, First: 10, Sectors: 2, Slots: 3, Live: 3, Bytes: 600, Open: true})
	offset := 24
	for x := range b.Chunks() {
		if x.Id == 5 {
			continue
		}
		if x.Container != 3 || x.Offset != offset {
			t.Error("chunk", x.Id, "lies in", x.Container, x.Offset, "want", offset)
		}
		offset += x.Length + 8
	}
	if b.Space().Waiting() != 2 || !b.Space().Has(6) {
		t.Error("space", b.Space().Waiting())
	}
	wantVictim(t, "then", b, 0, 0)
}

// TestOpenBecomesVictim: P22.2, P22.4: an open container with dead slots that a step closes is cleaned too.
func TestOpenBecomesVictim(t *testing.T) {
	b, _ := newBook(t, someShape(64))
	put(t, b, 600, 300, 10, 500)
	decr(t, b, 2, 3)
	wantVictim(t, "the closed one", b, 1, 2)
	put(t, b, 20)
	decr(t, b, 4)
	wantStep(t, "into the open one", b, api.Cleaned{Container: 1, Moved: 1, Bytes: 600}, true, api.OK)
	wantVictim(t, "the other one is closed", b, 2, 1)
	wantRun(t, "all", b, 3, api.OK, api.Cleaned{Container: 2, Moved: 1, Bytes: 20})
	wantVictim(t, "then", b, 0, 0)
}

// TestFull: P22.2, P22.3: what Move refuses is told with what was moved ahead of it, which stays so; a run tells what was done ahead.
func TestFull(t *testing.T) {
	b, _ := newBook(t, someShape(16)) // room for five containers
	put(t, b, 300, 300, 300, 450, 50, 450, roomOf, roomOf, 500)
	decr(t, b, 2, 5)
	wantVictim(t, "as it is", b, 1, 2)
	f := b.Fork()
	wantStep(t, "the open one has room for one", b, api.Cleaned{Container: 1, Moved: 1, Bytes: 300}, true, api.ErrFull)
	wantContainers(t, b, api.Container{Id: 1, First: 6, Sectors: 2, Slots: 3, Live: 1, Bytes: 300}, api.Container{Id: 2, First: 8, Sectors: 2, Slots: 3, Live: 2, Bytes: 900},
		api.Container{Id: 3, First: 10, Sectors: 2, Slots: 1, Live: 1, Bytes: roomOf}, api.Container{Id: 4, First: 12, Sectors: 2, Slots: 1, Live: 1, Bytes: roomOf},
		api.Container{Id: 5, First: 14, Sectors: 2, Slots: 2, Live: 2, Bytes: 800, Open: true})
	wantStep(t, "again", b, api.Cleaned{Container: 1}, true, api.ErrFull)
	wantRun(t, "again", b, 9, api.ErrFull)
	wantRun(t, "no step", b, 0, api.OK)
	decr(t, f, 7)
	f.Space().Settle() // room for one container more
	wantRun(t, "one is done", f, 9, api.ErrFull, api.Cleaned{Container: 1, Moved: 2, Bytes: 600})
	wantVictim(t, "the other one", f, 2, 2)
	f.Space().Settle()
	wantRun(t, "with room", f, 9, api.OK, api.Cleaned{Container: 2, Moved: 1, Bytes: 450})
	wantVictim(t, "then", f, 0, 0)
}

// TestLost: P22.2: a chunk whose bytes are not found is not moved; those ahead of it are, behind it none.
func TestLost(t *testing.T) {
	b, d := newBook(t, someShape(64))
	put(t, b, 10, 20, 30, 40, 900)
	decr(t, b, 1)
	write(b, d)
	sector, _ := d.Read(6)
	for x := range b.Chunks() {
		if x.Id == 3 {
			sector[x.Offset] ^= 1
		}
	}
	d.Write(6, sector)
	wantStep(t, "one is lost", b, api.Cleaned{Container: 1, Moved: 1, Bytes: 20}, true, api.ErrChunk)
	wantStep(t, "again", b, api.Cleaned{Container: 1}, true, api.ErrChunk)
	wantRun(t, "again", b, 5, api.ErrChunk)
	wantVictim(t, "it stays", b, 1, 2)
	for x := range b.Chunks() {
		if (x.Container == 1) != (x.Id == 3 || x.Id == 4) {
			t.Error("chunk", x)
		}
	}
}

// TestDropped: P22.2: a victim without a live chunk, which was open in a book ahead, is dropped.
func TestDropped(t *testing.T) {
	b, d := newBook(t, someShape(64))
	put(t, b, roomOf, 10, 20)
	decr(t, b, 2, 3)
	wantVictim(t, "it is open", b, 0, 0)
	b = again(t, b, d)
	wantVictim(t, "it is not", b, 2, 2)
	wantStep(t, "dropped", b, api.Cleaned{Container: 2}, true, api.OK)
	wantContainers(t, b, api.Container{Id: 1, First: 6, Sectors: 2, Slots: 1, Live: 1, Bytes: roomOf})
	if b.Space().Waiting() != 2 || !b.Space().Has(8) {
		t.Error("space", b.Space().Waiting())
	}
	wantStep(t, "then", b, api.Cleaned{}, false, api.OK)
}

// TestRun: P22.3: most steps at most, each told, till there is no victim.
func TestRun(t *testing.T) {
	b, _ := newBook(t, someShape(64))
	put(t, b, 500, 400, 500, 300, 500, 200, 900)
	decr(t, b, 1, 3, 5)
	first, second, third := api.Cleaned{Container: 3, Moved: 1, Bytes: 200}, api.Cleaned{Container: 2, Moved: 1, Bytes: 300}, api.Cleaned{Container: 1, Moved: 1, Bytes: 400}
	all := b.Fork()
	for _, most := range []int{-1, math.MinInt} {
		wantRun(t, "below 0", b, most, api.ErrArg)
	}
	wantRun(t, "none", b, 0, api.OK)
	wantVictim(t, "nothing was done", b, 3, 3)
	wantRun(t, "one", b, 1, api.OK, first)
	wantRun(t, "one more", b, 1, api.OK, second)
	wantRun(t, "as many as there are", b, 1, api.OK, third)
	wantRun(t, "none is left", b, 1, api.OK)
	wantRun(t, "all", all, math.MaxInt, api.OK, first, second, third)
	l, _ := clean.Run(all, 5)
	if len(l) != 0 {
		t.Error("Run", l)
	}
}

// TestNil: P22.1 to P22.3: of no book there is nothing to be done.
func TestNil(t *testing.T) {
	for _, b := range []*chunk.Book{nil, {}} {
		wantVictim(t, "no book", b, 0, 0)
		wantStep(t, "no book", b, api.Cleaned{}, false, api.OK)
		wantRun(t, "no book", b, 3, api.OK)
		wantRun(t, "no book", b, -1, api.ErrArg)
	}
}
