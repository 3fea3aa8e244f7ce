package pack_test

import (
	"bytes"
	"encoding/binary"
	"hash/crc32"
	"math/rand"
	"slices"
	"testing"

	"dedup/api"
	"dedup/pack"
)

// sum is a check sum, in 4 bytes; the library's.
func sum(b []byte) []byte {
	return binary.BigEndian.AppendUint32(nil, crc32.Checksum(b, crc32.MakeTable(crc32.Castagnoli)))
}

// edge is letters, two numbers, and their check sum: a head or a footer.
func edge(letters string, a, b uint32) []byte {
	l := binary.BigEndian.AppendUint32([]byte(letters), a)
	l = binary.BigEndian.AppendUint32(l, b)
	return append(l, sum(l)...)
}

// slotBytes is a slot by the chapter's words.
func slotBytes(chunk []byte) []byte {
	length := binary.BigEndian.AppendUint32(nil, uint32(len(chunk)))
	s := sum(append(slices.Clone(length), chunk...))
	return append(append(length, s...), chunk...)
}

// plain is a container by the chapter's words: its chunks, and all bytes as they were at the last Take.
type plain struct {
	size, sectors int
	id            uint32
	chunks        [][]byte
	sealed        bool
	was           []byte // at the last Take
	wasSlots      int
	wasSealed     bool
}

func newPlain(size, sectors int, id uint32) *plain {
	return &plain{size: size, sectors: sectors, id: id, was: make([]byte, size*sectors)}
}

func (p *plain) fork() *plain {
	q := *p
	q.chunks, q.was = slices.Clone(p.chunks), slices.Clone(p.was)
	return &q
}

func (p *plain) slots() []api.Slot {
	at := 16
	var l []api.Slot
	for _, c := range p.chunks {
		l = append(l, api.Slot{Offset: at + 8, Length: len(c)})
		at += 8 + len(c)
	}
	return l
}

func (p *plain) image() []byte {
	b := edge("DPAK", p.id, uint32(p.sectors))
	for _, c := range p.chunks {
		b = append(b, slotBytes(c)...)
	}
	end := len(b)
	b = append(b, make([]byte, p.size*p.sectors-end)...)
	if p.sealed {
		copy(b[len(b)-16:], edge("DFOT", uint32(len(p.chunks)), uint32(end)))
	}
	return b
}

func (p *plain) left() int {
	n := p.size*p.sectors - 32 - 8
	for _, c := range p.chunks {
		n -= 8 + len(c)
	}
	if p.sealed || n < 0 {
		return 0
	}
	return n
}

func (p *plain) append(b []byte) (api.Slot, api.Errno) {
	switch {
	case p.sealed:
		return api.Slot{}, api.ErrClosed
	case len(b) == 0:
		return api.Slot{}, api.ErrArg
	case len(b) > p.left():
		return api.Slot{}, api.ErrFull
	}
	p.chunks = append(p.chunks, slices.Clone(b))
	l := p.slots()
	return l[len(l)-1], api.OK
}

func (p *plain) back(mark int) api.Errno {
	if mark < 0 || mark > len(p.chunks) || mark < p.wasSlots {
		return api.ErrArg
	}
	p.chunks = p.chunks[:mark:mark]
	if p.sealed && !p.wasSealed {
		p.sealed = false
	}
	return api.OK
}

func (p *plain) seal() api.Errno {
	if p.sealed {
		return api.ErrClosed
	}
	p.sealed = true
	return api.OK
}

func (p *plain) take() []api.Sector {
	now := p.image()
	var l []api.Sector
	for n := range p.sectors {
		b := now[n*p.size : (n+1)*p.size]
		if !bytes.Equal(b, p.was[n*p.size:(n+1)*p.size]) {
			l = append(l, api.Sector{N: n, Bytes: slices.Clone(b)})
		}
	}
	p.was, p.wasSlots, p.wasSealed = now, len(p.chunks), p.sealed
	return l
}

// someChunk is a chunk by chance: mostly short, at times as long as fits, or a byte more, or of zeros.
func someChunk(r *rand.Rand, left int) []byte {
	n := r.Intn(40)
	switch r.Intn(12) {
	case 0:
		n = left + r.Intn(2)
	case 1, 2, 3:
		n = r.Intn(3000)
	}
	b := make([]byte, n)
	if r.Intn(4) > 0 {
		r.Read(b)
	}
	return b
}

// wantSame holds all that is told of a container against the plain one, and what any bytes are of its bytes (P13.5, P13.6).
func wantSame(t *testing.T, p *pack.Pack, q *plain) {
	t.Helper()
	image := p.Image()
	if p.Left() != q.left() || p.Mark() != len(q.chunks) || !slices.Equal(p.Slots(), q.slots()) || !bytes.Equal(image, q.image()) {
		t.Fatalf("left %d of %d, %d slots of %d, or other bytes", p.Left(), q.left(), p.Mark(), len(q.chunks))
	}
	id, l, sealed, e := pack.Scan(q.size, q.sectors, image)
	if id != q.id || !slices.Equal(l, q.slots()) || sealed != q.sealed || e != api.OK {
		t.Fatal("Scan", id, len(l), sealed, e)
	}
	for i, s := range q.slots() {
		got, e := p.Read(s)
		found, f := pack.Chunk(image, s)
		if e != api.OK || f != api.OK || !bytes.Equal(got, q.chunks[i]) || !bytes.Equal(found, q.chunks[i]) {
			t.Fatal("Read and Chunk of", s, e, f)
		}
	}
}

// wantTakes holds what is taken against the plain one's, and what each sector has ahead of its first new byte (P13.5).
func wantTakes(t *testing.T, p *pack.Pack, q *plain) {
	t.Helper()
	was := slices.Clone(q.was)
	got, want := p.Take(), q.take()
	same := func(a, b api.Sector) bool { return a.N == b.N && bytes.Equal(a.Bytes, b.Bytes) }
	if !slices.EqualFunc(got, want, same) {
		t.Fatalf("taken %d sectors, want %d, or others", len(got), len(want))
	}
	for _, s := range got {
		for i, b := range s.Bytes {
			if x := was[s.N*q.size+i]; x != b && x != 0 {
				t.Fatal("a byte of sector", s.N, "gave way:", i)
			}
		}
		copy(was[s.N*q.size:], s.Bytes)
	}
	if !bytes.Equal(was, p.Image()) {
		t.Fatal("what was taken, laid over what was there, is not the image")
	}
}

// TestAsPlain: P13.1 to P13.3, P13.5, P13.6: whatever is appended, taken back, sealed and taken, and of whichever fork, all is told as by the plain one.
func TestAsPlain(t *testing.T) {
	r := rand.New(rand.NewSource(13))
	for range 250 {
		size, sectors, id := 512<<r.Intn(4), 1+r.Intn(5), r.Uint32()
		packs, plains := []*pack.Pack{newPack(t, size, sectors, id)}, []*plain{newPlain(size, sectors, id)}
		for range 60 {
			i := r.Intn(len(packs))
			p, q := packs[i], plains[i]
			switch r.Intn(20) {
			case 0:
				packs, plains = append(packs, p.Fork()), append(plains, q.fork())
			case 1, 2, 3:
				wantTakes(t, p, q)
			case 4, 5, 6:
				mark := q.wasSlots - 1 + r.Intn(len(q.chunks)-q.wasSlots+3)
				wantErr(t, "Back", p.Back(mark), q.back(mark))
			case 7:
				wantErr(t, "Seal", p.Seal(), q.seal())
			default:
				b := someChunk(r, q.left())
				s, e := p.Append(b)
				want, f := q.append(b)
				if s != want || e != f {
					t.Fatal("Append", s, e, "want", want, f)
				}
			}
			wantSame(t, p, q)
		}
		for i, p := range packs {
			wantSame(t, p, plains[i])
		}
	}
}
