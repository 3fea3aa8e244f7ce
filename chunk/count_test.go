package chunk_test

import (
	"math"
	"strings"
	"testing"

	"dedup/api"
	"dedup/chunk"
	"dedup/disk"
	"dedup/space"
)

// noIds are numbers of which no chunk and no container is there.
func noIds() []int {
	return []int{0, -1, 2, 99, api.MaxNumber, api.MaxNumber + 1, 1<<32 + 1, math.MaxInt, math.MinInt, math.MinInt + 1}
}

// TestNoSuch: P15.3, P15.4, P15.10: numbers of which nothing is there.
func TestNoSuch(t *testing.T) {
	b, _ := newBook(t, someShape())
	mustPut(t, b, "a", 1)
	was := stateOf(b)
	for _, id := range noIds() {
		wantNoGet(t, b, id, api.ErrChunk)
		if n, e := b.Refs(id); n != 0 || e != api.ErrChunk {
			t.Error("Refs", id, n, e)
		}
		wantErr(t, "Incr", b.Incr(id), api.ErrChunk)
		wantErr(t, "Decr", b.Decr(id), api.ErrChunk)
		wantErr(t, "Move", b.Move(id), api.ErrChunk)
		wantErr(t, "Drop", b.Drop(id), api.ErrChunk)
	}
	wantSame(t, "what is not there", b, was)
}

// TestPutSizes: P15.2: how many bytes a chunk may have, of containers of several sizes.
func TestPutSizes(t *testing.T) {
	for _, pack := range []int{2, 3, 8} {
		for _, dedup := range []bool{true, false} {
			s := someShape()
			s.Pack, s.Dedup = pack, dedup
			room := 512*pack - 40
			b, _ := newBook(t, s)
			for _, n := range []int{0, room + 1, room + 8, 512 * pack, 512*pack + 1, 1 << 20} {
				if id, e := b.Put(make([]byte, n)); id != 0 || e != api.ErrArg {
					t.Error("Put of", n, "bytes", id, e)
				}
			}
			if b.Space().Used() != 0 {
				t.Error("something was laid down")
			}
			mustPut(t, b, strings.Repeat("a", room), 1)
			mustPut(t, b, strings.Repeat("b", room), 2)
			mustPut(t, b, "c", 3)
			wantGet(t, b, 2, strings.Repeat("b", room))
			if b.Space().Used() != 3*pack {
				t.Error("Used", b.Space().Used())
			}
		}
	}
}

// TestPutKeepsNothing: P15.2, P15.3 with R3: what is handed in is not changed and not kept; what is told is the caller's own.
func TestPutKeepsNothing(t *testing.T) {
	b, _ := newBook(t, someShape())
	data := []byte("abcd")[:3]
	if id, e := b.Put(data); id != 1 || e != api.OK || string(data[:4]) != "abcd" {
		t.Error("Put", id, e, string(data[:4]))
	}
	data[0] = 'z'
	wantGet(t, b, 1, "abc")
	got, _ := b.Get(1)
	clear(got[:cap(got)])
	wantGet(t, b, 1, "abc")
}

// TestStored: P15.2, P15.7: with Dedup equal bytes are one chunk; without it each Put is one; whatever the bits.
func TestStored(t *testing.T) {
	for _, bits := range []int{0, 1, 8, 255, 256} {
		for _, dedup := range []bool{true, false} {
			s := someShape()
			s.Bits, s.Dedup = bits, dedup
			b, _ := newBook(t, s)
			first := map[string]int{}
			n := 0
			for i := range 60 {
				data := strings.Repeat(string(rune('a'+i%7)), 1+i%3)
				want, ok := first[data]
				if !ok || !dedup {
					n++
					want = n
					first[data] = n
				}
				mustPut(t, b, data, want)
			}
			seen := map[string]int{}
			for x := range b.Chunks() {
				data, e := b.Get(x.Id)
				seen[string(data)]++
				if e != api.OK || x.Sum != sumOf(data, bits) {
					t.Error("sum of", x.Id, e)
				}
			}
			if dedup && len(seen) != n || len(seen) != len(first) {
				t.Error("bits", bits, "dedup", dedup, "stored", len(seen), "of", n)
			}
		}
	}
}

// TestPutPassesOver: P15.2: one whose bytes are not found any more is passed over, also where another one of that sum is.
func TestPutPassesOver(t *testing.T) {
	for _, bits := range []int{0, 256} {
		s := someShape()
		s.Bits = bits
		b, d := newBook(t, s)
		mustPut(t, b, "first", 1)
		mustPut(t, b, strings.Repeat("x", roomOf), 2)
		mustPut(t, b, "other", 3)
		write(t, b, d)
		sector, _ := d.Read(6)
		sector[24]++
		d.Write(6, sector)
		wantNoGet(t, b, 1, api.ErrChunk)
		mustPut(t, b, "first", 4)
		mustPut(t, b, "first", 4)
		mustPut(t, b, "other", 3)
		sector[24]--
		d.Write(6, sector)
		mustPut(t, b, "first", 1) // the first one by its number
		if n, _ := b.Refs(4); n != 2 {
			t.Error("Refs", n)
		}
	}
}

// refsOf is a book with a chunk "a" that is referred to so often.
func refsOf(t *testing.T, refs int) *chunk.Book {
	t.Helper()
	b, _ := newBook(t, someShape())
	mustPut(t, b, "a", 1)
	value, _, _ := b.Tree().Get(keyOf('c', 1))
	x, _ := b.Tree().Put(keyOf('c', 1), value[:44]+numbers(refs))
	wantErr(t, "Set", b.Set(x), api.OK)
	return b
}

// TestRefs: P15.2, P15.3: one more, one fewer, and the greatest number.
func TestRefs(t *testing.T) {
	b := refsOf(t, api.MaxNumber-2)
	mustPut(t, b, "a", 1)
	wantErr(t, "Incr", b.Incr(1), api.OK)
	if n, e := b.Refs(1); n != api.MaxNumber || e != api.OK {
		t.Error("Refs", n, e)
	}
	was := stateOf(b)
	wantErr(t, "Incr of the greatest", b.Incr(1), api.ErrFull)
	if id, e := b.Put([]byte("a")); id != 0 || e != api.ErrFull {
		t.Error("Put of the greatest", id, e)
	}
	wantSame(t, "what is full", b, was)
	wantErr(t, "Decr", b.Decr(1), api.OK)
	mustPut(t, b, "a", 1)
	b = refsOf(t, 3)
	for left := 2; left > 0; left-- {
		wantErr(t, "Decr", b.Decr(1), api.OK)
		if n, e := b.Refs(1); n != left || e != api.OK {
			t.Error("Refs", n, e)
		}
		wantContainers(t, b, api.Container{Id: 1, First: 6, Sectors: 2, Slots: 1, Live: 1, Bytes: 1, Open: true})
	}
	wantErr(t, "Decr", b.Decr(1), api.OK)
	wantErr(t, "Decr of what is gone", b.Decr(1), api.ErrChunk)
	wantErr(t, "Incr of what is gone", b.Incr(1), api.ErrChunk)
	wantContainers(t, b, api.Container{Id: 1, First: 6, Sectors: 2, Slots: 1, Open: true})
	mustPut(t, b, "a", 2) // a number is not given again
}

// TestLetGo: P15.3, P15.9: a container without a live slot goes, if it is not open; one that is open goes when it is closed.
func TestLetGo(t *testing.T) {
	b, _ := newBook(t, someShape())
	big := strings.Repeat("b", 900)
	mustPut(t, b, "a", 1)
	mustPut(t, b, big, 2)
	mustPut(t, b, "c"+big, 3)
	wantErr(t, "Decr", b.Decr(1), api.OK)
	wantContainers(t, b, api.Container{Id: 1, First: 6, Sectors: 2, Slots: 2, Live: 1, Bytes: 900},
		api.Container{Id: 2, First: 8, Sectors: 2, Slots: 1, Live: 1, Bytes: 901, Open: true})
	wantErr(t, "Decr", b.Decr(2), api.OK)
	wantContainers(t, b, api.Container{Id: 2, First: 8, Sectors: 2, Slots: 1, Live: 1, Bytes: 901, Open: true})
	wantErr(t, "Decr", b.Decr(3), api.OK)
	wantContainers(t, b, api.Container{Id: 2, First: 8, Sectors: 2, Slots: 1, Open: true})
	if b.Space().Waiting() != 2 || b.Space().Used() != 2 || !b.Space().Has(6) {
		t.Error("space", b.Space().Waiting(), b.Space().Used())
	}
	mustPut(t, b, "d", 4) // there is room in the open one
	wantErr(t, "Decr", b.Decr(4), api.OK)
	wantContainers(t, b, api.Container{Id: 2, First: 8, Sectors: 2, Slots: 2, Open: true})
	mustPut(t, b, big, 5)
	wantContainers(t, b, api.Container{Id: 3, First: 10, Sectors: 2, Slots: 1, Live: 1, Bytes: 900, Open: true})
	if b.Space().Waiting() != 4 || b.Space().Used() != 2 {
		t.Error("space", b.Space().Waiting(), b.Space().Used())
	}
}

// TestFull: P15.2, P15.4: where there is no room, nothing has changed; what fits into the open container is put still.
func TestFull(t *testing.T) {
	s := someShape()
	d, _ := disk.New(512, 64)
	sp, _ := space.New(6, 7) // three containers, and a sector
	b, e := chunk.New(s, treeOf(t, nil), sp, d)
	if e != api.OK {
		t.Fatal("New", e)
	}
	for i := range 3 {
		mustPut(t, b, strings.Repeat(string(rune('a'+i)), 900), i+1)
	}
	was := stateOf(b)
	if id, e := b.Put(make([]byte, 100)); id != 0 || e != api.ErrFull {
		t.Error("Put", id, e)
	}
	wantErr(t, "Move", b.Move(1), api.ErrFull)
	wantSame(t, "what is full", b, was)
	mustPut(t, b, strings.Repeat("a", 900), 1)
	mustPut(t, b, "a", 4)
	wantErr(t, "Decr", b.Decr(4), api.OK)
	wantErr(t, "Decr", b.Decr(3), api.OK)
	was = stateOf(b)
	if id, e := b.Put(make([]byte, 100)); id != 0 || e != api.ErrFull {
		t.Error("Put while the open one has nothing live", id, e)
	}
	wantSame(t, "what is full", b, was)
	wantErr(t, "Decr", b.Decr(2), api.OK)
	if id, e := b.Put(make([]byte, 100)); id != 0 || e != api.ErrFull {
		t.Error("Put ahead of Settle", id, e)
	}
	sp.Settle()
	mustPut(t, b, strings.Repeat("e", 100), 5)
	wantContainers(t, b, api.Container{Id: 1, First: 6, Sectors: 2, Slots: 1, Live: 1, Bytes: 900},
		api.Container{Id: 4, First: 8, Sectors: 2, Slots: 1, Live: 1, Bytes: 100, Open: true})
}

// TestCounters: P15.2, P15.4: numbers that are left, and counters that are none; ErrFull comes first.
func TestCounters(t *testing.T) {
	const last, over = api.MaxNumber, api.MaxNumber + 1
	for _, c := range []struct {
		counters string
		want     api.Errno
		id       int
		behind   string
	}{
		{numbers(1, 1, 1), api.OK, 1, numbers(1, 2, 2)},
		{numbers(over, 5, 9), api.OK, 5, numbers(over, 6, 10)},
		{numbers(3, last, last), api.OK, last, numbers(3, over, over)},
		{numbers(3, over, 1), api.ErrFull, 0, ""},
		{numbers(3, 1, over), api.ErrFull, 0, ""},
		{numbers(3, 0, 1), api.ErrChunk, 0, ""},
		{numbers(3, 1, 0), api.ErrChunk, 0, ""},
		{numbers(3, over+1, 1), api.ErrChunk, 0, ""},
		{numbers(3, 1, over+1), api.ErrChunk, 0, ""},
		{numbers(0, 1, 1), api.ErrChunk, 0, ""},
		{numbers(1, 1), api.ErrChunk, 0, ""},
		{numbers(1, 1, 1, 1), api.ErrChunk, 0, ""},
		{"", api.ErrChunk, 0, ""},
	} {
		for _, dedup := range []bool{true, false} {
			s := someShape()
			s.Dedup = dedup
			d, _ := disk.New(512, 64)
			b := bookOn(t, s, treeOf(t, map[string]string{"s": c.counters}), d)
			was := stateOf(b)
			id, e := b.Put([]byte("a"))
			if id != c.id || e != c.want {
				t.Errorf("Put with %q: %d %d", c.counters, id, e)
			}
			if e != api.OK {
				wantSame(t, "a Put that was refused", b, was)
			} else if value, _, _ := b.Tree().Get("s"); value != c.behind {
				t.Errorf("counters %q, want %q", value, c.behind)
			}
			full, _ := space.New(6, 1)
			b, _ = chunk.New(s, b.Tree(), full, d)
			if id, e := b.Put([]byte("b")); id != 0 || e != api.ErrFull {
				t.Errorf("Put with %q and no space: %d %d", c.counters, id, e)
			}
		}
	}
}

// TestCountersWanted: P15.2, P15.4: where a container is open a Move wants no number, and a Put none of a container; what is there already none at all.
func TestCountersWanted(t *testing.T) {
	b, d := newBook(t, someShape())
	mustPut(t, b, "a", 1)
	mustPut(t, b, strings.Repeat("b", roomOf), 2)
	mustPut(t, b, "c", 3)
	mustPut(t, b, strings.Repeat("d", roomOf), 4)
	mustPut(t, b, "e", 5)
	write(t, b, d)
	with := func(counters string) {
		x, _ := b.Tree().Put("s", counters)
		wantErr(t, "Set", b.Set(x), api.OK)
	}
	with(numbers(1, 6, api.MaxNumber+1))
	mustPut(t, b, "f", 6)
	with("none")
	wantErr(t, "Move", b.Move(1), api.OK)
	mustPut(t, b, "a", 1)
	if id, e := b.Put([]byte("g")); id != 0 || e != api.ErrChunk {
		t.Error("Put", id, e)
	}
	was := stateOf(b)
	wantErr(t, "Move that wants a container", b.Move(2), api.ErrChunk)
	with(numbers(1, 1, api.MaxNumber+1))
	wantErr(t, "Move that wants a container", b.Move(2), api.ErrFull)
	with("none")
	wantSame(t, "what was refused", b, was)
}
