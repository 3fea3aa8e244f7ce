package chunk_test

import (
	"bytes"
	"crypto/sha256"
	"encoding/binary"
	"hash/crc32"
	"maps"
	"math/rand"
	"slices"
	"testing"

	"dedup/api"
	"dedup/chunk"
	"dedup/disk"
	"dedup/space"
	"dedup/tree"
)

// numbers is numbers of 32 bits, one behind the other.
func numbers(l ...int) string {
	var b []byte
	for _, n := range l {
		b = binary.BigEndian.AppendUint32(b, uint32(n))
	}
	return string(b)
}

// keyOf is the key of a prefix and a number.
func keyOf(prefix byte, n int) string {
	return string(binary.BigEndian.AppendUint64([]byte{prefix}, uint64(n)))
}

// sumOf is the sum of bytes; the library's.
func sumOf(data []byte, bits int) [32]byte {
	sum := sha256.Sum256(data)
	for i := bits; i < 256; i++ {
		sum[i/8] &^= 0x80 >> (i % 8)
	}
	return sum
}

// crc is a check sum, in 4 bytes; the library's.
func crc(b string) string {
	return numbers(int(crc32.Checksum([]byte(b), crc32.MakeTable(crc32.Castagnoli))))
}

// box is a container in plain: the chunks that were laid into it, in order.
type box struct {
	first  int
	chunks []string
	live   int
	sealed bool
	kept   bool   // in memory
	was    []byte // its bytes at the last Take
}

// end is where the next slot begins.
func (x *box) end() int {
	n := 16
	for _, c := range x.chunks {
		n += 8 + len(c)
	}
	return n
}

// record is a chunk's record in plain, with its bytes.
type record struct {
	box, offset, refs int
	data              string
}

// plain is a book by the chapter's words: maps of records and containers, looked through one by one.
type plain struct {
	shape  api.Shape
	chunks map[int]record
	boxes  map[int]*box
	open   int
	next   []int // the counters; none, if there is no such key
	others map[string]string
	space  *space.Space
}

func newPlain(s api.Shape, sp *space.Space) *plain {
	return &plain{shape: s, chunks: map[int]record{}, boxes: map[int]*box{}, others: map[string]string{}, space: sp}
}

func (p *plain) fork() *plain {
	q := *p
	q.chunks, q.others, q.next = maps.Clone(p.chunks), maps.Clone(p.others), slices.Clone(p.next)
	q.boxes = map[int]*box{}
	for id, x := range p.boxes {
		y := *x
		y.chunks, y.was = slices.Clone(x.chunks), slices.Clone(x.was)
		q.boxes[id] = &y
	}
	q.space = p.space.Fork()
	return &q
}

// image is a container's bytes.
func (p *plain) image(id int) []byte {
	x := p.boxes[id]
	head := "DPAK" + numbers(id, p.shape.Pack)
	b := []byte(head + crc(head))
	for _, c := range x.chunks {
		b = append(b, numbers(len(c))+crc(numbers(len(c))+c)+c...)
	}
	b = append(b, make([]byte, p.shape.Pack*p.shape.Sector-len(b))...)
	if x.sealed {
		foot := "DFOT" + numbers(len(x.chunks), x.end())
		copy(b[len(b)-16:], foot+crc(foot))
	}
	return b
}

// pairs is what the tree should have.
func (p *plain) pairs() map[string]string {
	l := maps.Clone(p.others)
	for id, c := range p.chunks {
		sum := sumOf([]byte(c.data), p.shape.Bits)
		l[keyOf('c', id)] = string(sum[:]) + numbers(c.box, c.offset, len(c.data), c.refs)
	}
	for id, x := range p.boxes {
		l[keyOf('k', id)] = numbers(x.first, len(x.chunks), x.live)
	}
	if p.next != nil {
		l["s"] = numbers(p.next...)
	}
	return l
}

// count is the next number of a counter, which goes on.
func (p *plain) count(which int) int {
	if p.next == nil {
		p.next = []int{1, 1, 1}
	}
	p.next[which]++
	return p.next[which] - 1
}

func (p *plain) letGo(id int) {
	p.space.Later(api.Area{First: p.boxes[id].first, Count: p.shape.Pack})
	delete(p.boxes, id)
}

// lay lays data down: where, and whether there was room.
func (p *plain) lay(data string) (id, offset int, ok bool) {
	open := p.boxes[p.open]
	if open == nil || open.end()+8+len(data) > p.shape.Pack*p.shape.Sector-16 {
		first, e := p.space.Take(p.shape.Pack)
		if e != api.OK {
			return 0, 0, false
		}
		if open != nil {
			open.sealed = true
			if open.live == 0 {
				p.letGo(p.open)
			}
		}
		p.open = p.count(2)
		open = &box{first: first, kept: true, was: make([]byte, p.shape.Pack*p.shape.Sector)}
		p.boxes[p.open] = open
	}
	offset = open.end() + 8
	open.chunks = append(open.chunks, data)
	open.live++
	return p.open, offset, true
}

func (p *plain) put(data string) (int, api.Errno) {
	if data == "" || len(data) > p.shape.Pack*p.shape.Sector-40 {
		return 0, api.ErrArg
	}
	for _, id := range slices.Sorted(maps.Keys(p.chunks)) {
		if c := p.chunks[id]; p.shape.Dedup && c.data == data {
			return id, p.incr(id)
		}
	}
	at, offset, ok := p.lay(data)
	if !ok {
		return 0, api.ErrFull
	}
	id := p.count(1)
	p.chunks[id] = record{at, offset, 1, data}
	return id, api.OK
}

func (p *plain) incr(id int) api.Errno {
	c, ok := p.chunks[id]
	if !ok {
		return api.ErrChunk
	}
	c.refs++
	p.chunks[id] = c
	return api.OK
}

// release takes a live slot off a container.
func (p *plain) release(id int) {
	x := p.boxes[id]
	x.live--
	if x.live == 0 && id != p.open {
		p.letGo(id)
	}
}

func (p *plain) decr(id int) api.Errno {
	c, ok := p.chunks[id]
	if !ok {
		return api.ErrChunk
	}
	c.refs--
	p.chunks[id] = c
	if c.refs == 0 {
		delete(p.chunks, id)
		p.release(c.box)
	}
	return api.OK
}

func (p *plain) move(id int) api.Errno {
	c, ok := p.chunks[id]
	if !ok {
		return api.ErrChunk
	}
	if c.box == p.open {
		return api.OK
	}
	at, offset, ok := p.lay(c.data)
	if !ok {
		return api.ErrFull
	}
	p.release(c.box)
	c.box, c.offset = at, offset
	p.chunks[id] = c
	return api.OK
}

func (p *plain) drop(id int) api.Errno {
	if x := p.boxes[id]; x == nil || x.live > 0 || id == p.open {
		return api.ErrChunk
	}
	p.letGo(id)
	return api.OK
}

func (p *plain) take() []api.Sector {
	var l []api.Sector
	for _, id := range slices.Sorted(maps.Keys(p.boxes)) {
		x := p.boxes[id]
		if !x.kept {
			continue
		}
		now := p.image(id)
		for i := range p.shape.Pack {
			from, to := i*p.shape.Sector, (i+1)*p.shape.Sector
			if !bytes.Equal(now[from:to], x.was[from:to]) {
				l = append(l, api.Sector{N: x.first + i, Bytes: now[from:to]})
			}
		}
		x.was, x.kept = now, id == p.open
	}
	return l
}

func (p *plain) containers() []api.Container {
	var l []api.Container
	for _, id := range slices.Sorted(maps.Keys(p.boxes)) {
		x := p.boxes[id]
		k := api.Container{Id: id, First: x.first, Sectors: p.shape.Pack, Slots: len(x.chunks), Live: x.live, Open: id == p.open}
		for _, c := range p.chunks {
			if c.box == id {
				k.Bytes += len(c.data)
			}
		}
		l = append(l, k)
	}
	return l
}

// reopened is what a new book on the same tree, space and source is.
func (p *plain) reopened() {
	p.open = 0
	for _, x := range p.boxes {
		x.kept = false
	}
}

// wantTree holds all keys and values of a book's tree.
func wantTree(t *testing.T, b *chunk.Book, want map[string]string) {
	t.Helper()
	got := maps.Collect(b.Tree().Scan("", ""))
	if !maps.Equal(got, want) {
		t.Fatalf("tree %q\nwant %q", got, want)
	}
}

// wantSectors holds what Take told.
func wantSectors(t *testing.T, got, want []api.Sector) {
	t.Helper()
	same := func(a, b api.Sector) bool { return a.N == b.N && bytes.Equal(a.Bytes, b.Bytes) }
	if !slices.EqualFunc(got, want, same) {
		t.Fatal("Take", got, "want", want)
	}
}

// wantAsPlain holds all that is told of a book against the plain one.
func wantAsPlain(t *testing.T, b *chunk.Book, p *plain) {
	t.Helper()
	wantTree(t, b, p.pairs())
	if b.Space().Bits() != p.space.Bits() || b.Space().Waiting() != p.space.Waiting() {
		t.Fatal("space", b.Space().Used(), b.Space().Waiting(), "want", p.space.Used(), p.space.Waiting())
	}
	if got, e := b.Containers(); e != api.OK || !slices.Equal(got, p.containers()) {
		t.Fatal("Containers", got, e, "want", p.containers())
	}
	var chunks []api.Chunk
	for _, id := range slices.Sorted(maps.Keys(p.chunks)) {
		c := p.chunks[id]
		chunks = append(chunks, api.Chunk{Id: id, Container: c.box, Offset: c.offset, Length: len(c.data), Refs: c.refs, Sum: sumOf([]byte(c.data), p.shape.Bits)})
		if data, e := b.Get(id); e != api.OK || string(data) != c.data {
			t.Fatalf("Get(%d): %q %d, want %q", id, data, e, c.data)
		}
		if n, e := b.Refs(id); e != api.OK || n != c.refs {
			t.Fatal("Refs", id, n, e, "want", c.refs)
		}
	}
	if got := slices.Collect(b.Chunks()); !slices.Equal(got, chunks) {
		t.Fatal("Chunks", got, "want", chunks)
	}
}

// pair is a book, the plain one beside it, and the disk on which it lies.
type pair struct {
	book  *chunk.Book
	plain *plain
	disk  *disk.Disk
}

// taken takes the sectors of both, holds them, and writes them to the disk.
func (x *pair) taken(t *testing.T) {
	t.Helper()
	l := x.book.Take()
	wantSectors(t, l, x.plain.take())
	for _, s := range l {
		if e := x.disk.Write(s.N, s.Bytes); e != api.OK {
			t.Fatal("Write", s.N, e)
		}
	}
}

// reopen makes a new book on what was written.
func (x *pair) reopen(t *testing.T) {
	t.Helper()
	x.taken(t)
	b, e := chunk.New(x.book.Shape(), x.book.Tree(), x.book.Space(), x.disk)
	if e != api.OK {
		t.Fatal("New on what was written", e)
	}
	x.book = b
	x.plain.reopened()
}

// someData is bytes by chance, of which many are equal to others.
func someData(r *rand.Rand, s api.Shape) string {
	room := s.Pack*s.Sector - 40
	n := 1 + r.Intn(room/8)
	switch r.Intn(20) {
	case 0:
		n = room
	case 1:
		n = room + 1
	case 2:
		n = 0
	case 3:
		n = room - r.Intn(20)
	case 4, 5, 6, 7, 8:
		n = 1 + r.Intn(3)
	}
	return string(bytes.Repeat([]byte{byte('a' + r.Intn(3))}, n))
}

// step does one thing by chance to both, and holds what they tell.
func (x *pair) step(t *testing.T, r *rand.Rand) {
	t.Helper()
	id, box := r.Intn(12), r.Intn(6)
	if x.plain.next != nil {
		id, box = r.Intn(x.plain.next[1]+2)-1, r.Intn(x.plain.next[2]+2)-1
	}
	var got, want api.Errno
	switch what := r.Intn(30); what {
	default:
		data := someData(r, x.plain.shape)
		gotId, e := x.book.Put([]byte(data))
		wantId, want := x.plain.put(data)
		if gotId != wantId || e != want {
			t.Fatalf("Put of %d bytes: %d %d, want %d %d", len(data), gotId, e, wantId, want)
		}
	case 0, 1, 2:
		got, want = x.book.Incr(id), x.plain.incr(id)
	case 3, 4, 5, 6, 7, 8, 9, 10:
		got, want = x.book.Decr(id), x.plain.decr(id)
	case 11, 12, 13:
		got, want = x.book.Move(id), x.plain.move(id)
	case 14:
		got, want = x.book.Drop(box), x.plain.drop(box)
	case 15, 16:
		x.taken(t)
	case 17:
		x.book.Compact()
	case 18:
		x.book.Space().Settle()
		x.plain.space.Settle()
	case 19:
		if r.Intn(3) == 0 {
			x.reopen(t)
		}
	case 20:
		key, value := "x"+string(rune('a'+r.Intn(26))), numbers(r.Intn(9))
		other, _ := x.book.Tree().Put(key, value)
		got = x.book.Set(other)
		x.plain.others[key] = value
	}
	if got != want {
		t.Fatal("of", id, box, "told", got, "want", want)
	}
}

// shapes are some that differ in what a book looks at.
func shapes() []api.Shape {
	var l []api.Shape
	for _, s := range []api.Shape{{Sector: 512, Sectors: 48, Pack: 2}, {Sector: 512, Sectors: 64, Pack: 5}, {Sector: 1024, Sectors: 40, Pack: 3}} {
		for _, bits := range []int{0, 1, 9, 256} {
			for _, dedup := range []bool{true, false} {
				s.Journal, s.Bits, s.Dedup = 4, bits, dedup
				s.Cut = api.Cut{Min: 8, Normal: 16, Max: 64}
				l = append(l, s)
			}
		}
	}
	return l
}

// newPair is a book without chunks, on its own disk.
func newPair(t *testing.T, s api.Shape) *pair {
	t.Helper()
	first := 2 + s.Journal
	sp, _ := space.New(first, s.Sectors-first)
	other := sp.Fork()
	d, _ := disk.New(s.Sector, s.Sectors)
	x, _ := tree.New(s.Sector)
	b, e := chunk.New(s, x, sp, d)
	if e != api.OK {
		t.Fatal("New", e)
	}
	return &pair{b, newPlain(s, other), d}
}

// TestAsPlain: P15.1 to P15.10: whatever is done, all is told as by the plain one: each key and value of the tree, the space, the sectors that are taken, the bytes of each chunk.
func TestAsPlain(t *testing.T) {
	r := rand.New(rand.NewSource(15))
	for _, s := range shapes() {
		for range 4 {
			x := newPair(t, s)
			for range 150 {
				x.step(t, r)
				wantAsPlain(t, x.book, x.plain)
			}
		}
	}
}

// TestForksAsPlain: P15.5: what is done to a book is not done to its fork, nor the other way round.
func TestForksAsPlain(t *testing.T) {
	r := rand.New(rand.NewSource(155))
	for _, s := range shapes() {
		x := newPair(t, s)
		for range 25 {
			stays := &pair{x.book.Fork(), x.plain.fork(), x.disk}
			if r.Intn(2) == 0 {
				x, stays = stays, x
			}
			for range r.Intn(12) {
				x.forkedStep(t, r)
			}
			wantAsPlain(t, stays.book, stays.plain)
			if r.Intn(2) == 0 {
				x = stays
			}
			x.taken(t)
			wantAsPlain(t, x.book, x.plain)
		}
	}
}

// forkedStep is a step that leaves the disk as it is, as another book lies there too.
func (x *pair) forkedStep(t *testing.T, r *rand.Rand) {
	t.Helper()
	data, id := someData(r, x.plain.shape), r.Intn(20)
	var got, want api.Errno
	switch r.Intn(6) {
	case 0, 1, 2:
		var gotId, wantId int
		gotId, got = x.book.Put([]byte(data))
		wantId, want = x.plain.put(data)
		if gotId != wantId {
			t.Fatal("Put", gotId, "want", wantId)
		}
	case 3, 4:
		got, want = x.book.Decr(id), x.plain.decr(id)
	case 5:
		got, want = x.book.Move(id), x.plain.move(id)
	}
	if got != want {
		t.Fatal("of", id, "told", got, "want", want)
	}
	wantAsPlain(t, x.book, x.plain)
}
