package journal_test

import (
	"bytes"
	"math/rand"
	"slices"
	"testing"

	"dedup/api"
	"dedup/journal"
)

// plain is a journal by the chapter's words: the bytes of each sector's room, filled byte by byte.
type plain struct {
	size       int
	generation uint64
	rooms      [][]byte
	taken      int
	records    []string
	ends       []int // of each record: the sector in which it ends
}

func newPlain(size, sectors int, generation uint64) *plain {
	return &plain{size: size, generation: generation, rooms: make([][]byte, sectors)}
}

func (p *plain) fork() *plain {
	q := *p
	q.rooms = nil
	for _, b := range p.rooms {
		q.rooms = append(q.rooms, slices.Clone(b))
	}
	q.records, q.ends = slices.Clone(p.records), slices.Clone(p.ends)
	return &q
}

func (p *plain) free() int {
	n := 0
	for _, b := range p.rooms[p.taken:] {
		n += p.size - 24 - len(b)
	}
	return n
}

func (p *plain) left() int { return max(p.free()-4, 0) }

func (p *plain) append(rec string) api.Errno {
	if len(rec) > 65536 {
		return api.ErrLong
	}
	if len(rec)+4 > p.free() {
		return api.ErrFull
	}
	at := p.taken
	for _, b := range framed(rec) {
		for len(p.rooms[at]) == p.size-24 {
			at++
		}
		p.rooms[at] = append(p.rooms[at], b)
	}
	p.records, p.ends = append(p.records, rec), append(p.ends, at)
	return api.OK
}

func (p *plain) take() []api.Sector {
	var l []api.Sector
	for p.taken < len(p.rooms) && len(p.rooms[p.taken]) > 0 {
		b := p.rooms[p.taken]
		l = append(l, api.Sector{N: p.taken, Bytes: sector(p.size, p.generation, p.taken, len(b), b)})
		p.taken++
	}
	return l
}

// endIn is the records that end in the first n sectors.
func (p *plain) endIn(n int) []string {
	var l []string
	for i, rec := range p.records {
		if p.ends[i] < n {
			l = append(l, rec)
		}
	}
	return l
}

// someRecord is a record by chance: mostly short, at times as long as fits, or a byte more.
func someRecord(r *rand.Rand, left int) string {
	n := r.Intn(60)
	switch r.Intn(12) {
	case 0:
		n = left + r.Intn(2)
	case 1, 2:
		n = r.Intn(2000)
	case 3:
		n = 0
	}
	b := make([]byte, n)
	r.Read(b)
	return string(b)
}

// sameSectors holds two lists of sectors against each other.
func sameSectors(t *testing.T, got, want []api.Sector) {
	t.Helper()
	same := func(a, b api.Sector) bool { return a.N == b.N && bytes.Equal(a.Bytes, b.Bytes) }
	if !slices.EqualFunc(got, want, same) {
		t.Fatalf("taken %d sectors, want %d, or others", len(got), len(want))
	}
}

// TestAsPlain: P7.1, P7.2, P7.4: whatever is appended and taken, and of whichever fork, all is told as by the plain one.
func TestAsPlain(t *testing.T) {
	r := rand.New(rand.NewSource(7))
	for range 150 {
		size, sectors, g := 512<<r.Intn(4), 1+r.Intn(20), r.Uint64()
		writers, plains := []*journal.Writer{newWriter(t, size, sectors, g)}, []*plain{newPlain(size, sectors, g)}
		for range 80 {
			i := r.Intn(len(writers))
			w, p := writers[i], plains[i]
			switch r.Intn(10) {
			case 0:
				writers, plains = append(writers, w.Fork()), append(plains, p.fork())
			case 1, 2:
				sameSectors(t, w.Take(), p.take())
			default:
				rec := someRecord(r, p.left())
				wantErr(t, "Append", w.Append(rec), p.append(rec))
			}
			for i, w := range writers {
				wantState(t, w, plains[i].left(), len(plains[i].records))
			}
		}
	}
}

// someImage is an image of other generations' sectors, of this one's at other places, of zeros and of anything.
func someImage(r *rand.Rand, size, sectors int, generation uint64) []byte {
	image := make([]byte, size*sectors)
	for i := range sectors {
		b := image[i*size : (i+1)*size]
		room := framed("old", long(r.Intn(100)))
		switch r.Intn(4) {
		case 0:
			copy(b, sector(size, generation-1-uint64(r.Intn(3)), i, len(room), room))
		case 1:
			copy(b, sector(size, generation, i+1+r.Intn(3), len(room), room))
		case 2:
			r.Read(b)
		}
	}
	return image
}

// TestFirstOnes: P7.5, P7.6: of sectors that were taken, laid into an image of others, all records are found; of the first k of them those that end there, whichever of the later ones are there too.
func TestFirstOnes(t *testing.T) {
	r := rand.New(rand.NewSource(75))
	for range 150 {
		size, sectors, g := 512<<r.Intn(4), 2+r.Intn(12), 100+uint64(r.Intn(1000))
		w, p := newWriter(t, size, sectors, g), newPlain(size, sectors, g)
		var l []api.Sector
		for range r.Intn(40) {
			rec := someRecord(r, w.Left())
			wantErr(t, "Append", w.Append(rec), p.append(rec))
			if r.Intn(4) == 0 {
				l = append(l, w.Take()...)
				p.take()
			}
		}
		l = append(l, w.Take()...)
		old := someImage(r, size, sectors, g)
		image := slices.Clone(old)
		lay(image, size, l)
		wantFound(t, size, g, image, len(l), p.records...)
		for k := range len(l) {
			image := slices.Clone(old)
			lay(image, size, l[:k])
			wantFound(t, size, g, image, k, p.endIn(k)...)
			for _, s := range l[k+1:] {
				if r.Intn(2) == 0 {
					lay(image, size, []api.Sector{s})
				}
			}
			wantFound(t, size, g, image, k, p.endIn(k)...)
		}
		wantFound(t, size, g+1, image, 0)
	}
}
