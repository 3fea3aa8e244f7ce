package chunk_test

import (
	"slices"
	"strings"
	"testing"

	"dedup/api"
	"dedup/chunk"
	"dedup/disk"
)

// TestMove: P15.4: a chunk of a closed container goes to the open one; its bytes, number and count stay.
func TestMove(t *testing.T) {
	b, d := newBook(t, someShape())
	big := strings.Repeat("b", 900)
	mustPut(t, b, "a", 1)
	mustPut(t, b, "a", 1)
	mustPut(t, b, big, 2)
	mustPut(t, b, "c"+big, 3)
	was := stateOf(b)
	wantErr(t, "Move within the open one", b.Move(3), api.OK)
	wantSame(t, "Move within the open one", b, was)
	wantErr(t, "Move", b.Move(1), api.OK)
	wantContainers(t, b, api.Container{Id: 1, First: 6, Sectors: 2, Slots: 2, Live: 1, Bytes: 900},
		api.Container{Id: 2, First: 8, Sectors: 2, Slots: 2, Live: 2, Bytes: 902, Open: true})
	wantGet(t, b, 1, "a")
	if n, _ := b.Refs(1); n != 2 {
		t.Error("Refs", n)
	}
	wantErr(t, "Move", b.Move(2), api.OK) // closes the open one
	wantContainers(t, b, api.Container{Id: 2, First: 8, Sectors: 2, Slots: 2, Live: 2, Bytes: 902},
		api.Container{Id: 3, First: 10, Sectors: 2, Slots: 1, Live: 1, Bytes: 900, Open: true})
	if b.Space().Waiting() != 2 || !b.Space().Has(6) {
		t.Error("the old one was not let go", b.Space().Waiting())
	}
	if got := write(t, b, d); !slices.Equal(got, []int{8, 9, 10, 11}) {
		t.Error("Take", got)
	}
	for id, want := range map[int]string{1: "a", 2: big, 3: "c" + big} {
		wantGet(t, b, id, want)
	}
	mustPut(t, b, big, 2)
}

// TestMoveRefused: P15.4: what Get refuses, Move refuses.
func TestMoveRefused(t *testing.T) {
	b, d := newBook(t, someShape())
	mustPut(t, b, "a", 1)
	mustPut(t, b, strings.Repeat("b", roomOf), 2)
	b.Take() // and nothing of it is written
	was := stateOf(b)
	wantErr(t, "Move", b.Move(1), api.ErrChunk)
	wantSame(t, "Move of what is not found", b, was)
	d.Write(6, make([]byte, 512))
	wantErr(t, "Move", b.Move(1), api.ErrChunk)
}

// dropped is a book on which a container without a live slot is, that was open in a book ahead of it; and its number.
func dropped(t *testing.T) (*chunk.Book, int) {
	t.Helper()
	b, d := newBook(t, someShape())
	mustPut(t, b, strings.Repeat("a", roomOf), 1)
	mustPut(t, b, "b", 2)
	wantErr(t, "Decr", b.Decr(2), api.OK)
	write(t, b, d)
	b, e := chunk.New(someShape(), b.Tree(), b.Space(), d)
	if e != api.OK {
		t.Fatal("New", e)
	}
	return b, 2
}

// TestDrop: P15.10, P15.9: a container without a live slot that is not open goes; no other one.
func TestDrop(t *testing.T) {
	b, id := dropped(t)
	live := api.Container{Id: 1, First: 6, Sectors: 2, Slots: 1, Live: 1, Bytes: roomOf}
	wantContainers(t, b, live, api.Container{Id: id, First: 8, Sectors: 2, Slots: 1})
	was := stateOf(b)
	wantErr(t, "Drop of a live one", b.Drop(1), api.ErrChunk)
	wantErr(t, "Drop of none", b.Drop(3), api.ErrChunk)
	wantSame(t, "a Drop that was refused", b, was)
	wantErr(t, "Drop", b.Drop(id), api.OK)
	wantContainers(t, b, live)
	if b.Space().Waiting() != 2 || b.Space().Used() != 2 || !b.Space().Has(8) {
		t.Error("space", b.Space().Waiting(), b.Space().Used())
	}
	wantErr(t, "Drop again", b.Drop(id), api.ErrChunk)
	mustPut(t, b, "c", 3)
	wantErr(t, "Decr", b.Decr(3), api.OK)
	was = stateOf(b)
	wantErr(t, "Drop of the open one", b.Drop(3), api.ErrChunk)
	wantSame(t, "Drop of the open one", b, was)
	b.Space().Settle()
	wantErr(t, "Decr", b.Decr(1), api.OK)
	wantContainers(t, b, api.Container{Id: 3, First: 10, Sectors: 2, Slots: 1, Open: true})
}

// TestDropStays: P15.9, P15.10: without a Drop such a container stays, whatever is put.
func TestDropStays(t *testing.T) {
	b, id := dropped(t)
	for i := range 4 {
		mustPut(t, b, strings.Repeat(string(rune('d'+i)), 900), 3+i)
	}
	l, _ := b.Containers()
	if len(l) != 6 || l[1].Id != id || l[1].Live != 0 {
		t.Error("Containers", l)
	}
}

// refusing is a source that tells of the sectors from one on what it should not.
type refusing struct {
	*disk.Disk
	tell func(sector []byte) ([]byte, api.Errno)
	from int
}

func (r *refusing) Read(n int) ([]byte, api.Errno) {
	b, e := r.Disk.Read(n)
	if n >= r.from {
		return r.tell(b)
	}
	return b, e
}

// TestSources: P15.3: a source that refuses, tells too much or too little, or panics: the bytes are not found; those in memory are.
func TestSources(t *testing.T) {
	for what, tell := range map[string]func([]byte) ([]byte, api.Errno){
		"refused": func([]byte) ([]byte, api.Errno) { return nil, api.ErrSector },
		"short":   func(b []byte) ([]byte, api.Errno) { return b[:511], api.OK },
		"long":    func(b []byte) ([]byte, api.Errno) { return append(b, 0), api.OK },
		"nothing": func([]byte) ([]byte, api.Errno) { return nil, api.OK },
		"panics":  func([]byte) ([]byte, api.Errno) { panic("no sector") },
	} {
		d, _ := disk.New(512, 64)
		r := &refusing{d, tell, 64}
		b := bookOn(t, someShape(), treeOf(t, nil), r)
		mustPut(t, b, strings.Repeat("a", roomOf), 1)
		mustPut(t, b, "b", 2) // in the first sector of its container
		mustPut(t, b, strings.Repeat("c", 980), 3)
		mustPut(t, b, strings.Repeat("d", 980), 4)
		write(t, b, d)
		wantGet(t, b, 2, "b")
		r.from = 8
		wantGet(t, b, 1, strings.Repeat("a", roomOf))
		wantGet(t, b, 4, strings.Repeat("d", 980))
		for _, id := range []int{2, 3} {
			if data, e := b.Get(id); len(data) != 0 || e != api.ErrChunk {
				t.Error(what, "Get", data, e)
			}
			wantErr(t, what+": Move", b.Move(id), api.ErrChunk)
		}
		mustPut(t, b, "b", 5)
		if n, e := b.Refs(2); n != 1 || e != api.OK {
			t.Error(what, "Refs", n, e)
		}
		wantErr(t, what+": Decr", b.Decr(2), api.OK)
	}
}

// TestGetRefused: P15.3: a record that points to what is not there, and sums that are other ones.
func TestGetRefused(t *testing.T) {
	for _, inMemory := range []bool{true, false} {
		b, d := newBook(t, someShape())
		mustPut(t, b, "abc", 1)
		mustPut(t, b, "defgh", 2)
		if !inMemory {
			write(t, b, d)
			b, _ = chunk.New(someShape(), b.Tree(), b.Space(), d)
		}
		right := b.Tree()
		value, _, _ := right.Get(keyOf('c', 2))
		sum := value[:32]
		for what, c := range map[string]struct {
			value string
			want  api.Errno
		}{
			"the right one":     {value, api.OK},
			"the first slot":    {sum + numbers(1, 24, 3, 1), api.ErrChunk},
			"another offset":    {sum + numbers(1, 36, 5, 1), api.ErrChunk},
			"offset 0":          {sum + numbers(1, 0, 5, 1), api.ErrChunk},
			"offset 7":          {sum + numbers(1, 7, 5, 1), api.ErrChunk},
			"a great offset":    {sum + numbers(1, 1<<32-1, 5, 1), api.ErrChunk},
			"another length":    {sum + numbers(1, 35, 4, 1), api.ErrChunk},
			"a great length":    {sum + numbers(1, 35, 1<<32-1, 1), api.ErrChunk},
			"another container": {sum + numbers(2, 35, 5, 1), api.ErrChunk},
			"container 0":       {sum + numbers(0, 35, 5, 1), api.ErrChunk},
			"another sum":       {strings.Repeat("s", 32) + numbers(1, 35, 5, 1), api.ErrChunk},
			"no record":         {value[1:], api.ErrChunk},
		} {
			x, _ := right.Put(keyOf('c', 2), c.value)
			wantErr(t, "Set", b.Set(x), api.OK)
			if data, e := b.Get(2); e != c.want || e != api.OK && len(data) != 0 {
				t.Error(what, "Get", data, e, "want", c.want)
			}
			if e := b.Fork().Move(2); e != c.want {
				t.Error(what, "Move", e, "want", c.want)
			}
		}
		wantErr(t, "Set", b.Set(right), api.OK)
		wantGet(t, b, 2, "defgh")
		x, _ := right.Delete(keyOf('k', 1))
		wantErr(t, "Set", b.Set(x), api.OK)
		wantNoGet(t, b, 1, api.ErrChunk)
		wantErr(t, "Move without a container", b.Move(1), api.ErrChunk)
		wantErr(t, "Decr without a container", b.Decr(1), api.OK)
		wantErr(t, "Decr again", b.Decr(1), api.ErrChunk)
	}
}

// TestTurnedBits: P15.3: each bit of a chunk and of what stands ahead of it, turned on the disk, is told.
func TestTurnedBits(t *testing.T) {
	for _, bits := range []int{0, 256} {
		s := someShape()
		s.Bits = bits
		b, d := newBook(t, s)
		mustPut(t, b, "abc", 1)
		write(t, b, d)
		b, _ = chunk.New(s, b.Tree(), b.Space(), d)
		sector, _ := d.Read(6)
		for bit := 16 * 8; bit < 27*8; bit++ {
			turned := slices.Clone(sector)
			turned[bit/8] ^= 1 << (bit % 8)
			d.Write(6, turned)
			wantNoGet(t, b, 1, api.ErrChunk)
		}
		d.Write(6, sector)
		wantGet(t, b, 1, "abc")
	}
}
