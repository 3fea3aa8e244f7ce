package pack_test

import (
	"bytes"
	"math"
	"slices"
	"testing"

	"dedup/api"
	"dedup/pack"
)

// newPack is a container without slots.
func newPack(t *testing.T, size, sectors int, id uint32) *pack.Pack {
	t.Helper()
	p, e := pack.New(size, sectors, id)
	if e != api.OK || p == nil {
		t.Fatal("New", size, sectors, e)
	}
	return p
}

// wantErr holds what a call told.
func wantErr(t *testing.T, what string, got, want api.Errno) {
	t.Helper()
	if got != want {
		t.Errorf("%s: error %d, want %d", what, got, want)
	}
}

// mustAppend appends a chunk that is not refused.
func mustAppend(t *testing.T, p *pack.Pack, b []byte) api.Slot {
	t.Helper()
	s, e := p.Append(b)
	if e != api.OK {
		t.Fatal("Append of", len(b), e)
	}
	return s
}

// wantRefused holds that a chunk is refused, and that nothing has changed.
func wantRefused(t *testing.T, p *pack.Pack, b []byte, want api.Errno) {
	t.Helper()
	left, image := p.Left(), p.Image()
	s, e := p.Append(b)
	if e != want || s != (api.Slot{}) || p.Left() != left || !bytes.Equal(p.Image(), image) {
		t.Errorf("Append of %d bytes: %v, error %d, want %d", len(b), s, e, want)
	}
}

// wantTaken takes, and holds the sectors' places; it is what was taken.
func wantTaken(t *testing.T, p *pack.Pack, places ...int) []api.Sector {
	t.Helper()
	l := p.Take()
	var got []int
	for _, s := range l {
		got = append(got, s.N)
	}
	if !slices.Equal(got, places) {
		t.Errorf("taken %v, want %v", got, places)
	}
	return l
}

// long is a chunk of n bytes, none of which is 0.
func long(n int) []byte {
	return bytes.Repeat([]byte{0xa5}, n)
}

// TestNew: P13.1, which sizes and numbers of sectors may be, and that there is a head and nothing else.
func TestNew(t *testing.T) {
	for size := -5; size <= 2*api.MaxSector+1; size++ {
		p, e := pack.New(size, 3, 9)
		if size == 512 || size == 1024 || size == 2048 || size == 4096 {
			if e != api.OK || p.Left() != 3*size-40 || p.Mark() != 0 || len(p.Slots()) != 0 {
				t.Error("New", size, e)
			}
		} else if e != api.ErrArg || p != nil {
			t.Error("New", size, "is not refused")
		}
	}
	for sectors := -3; sectors <= 70; sectors++ {
		p, e := pack.New(512, sectors, math.MaxUint32)
		if sectors < 1 || sectors > 64 {
			if e != api.ErrArg || p != nil {
				t.Error("New of sectors", sectors, e)
			}
			continue
		}
		want := append(edge("DPAK", math.MaxUint32, uint32(sectors)), make([]byte, 512*sectors-16)...)
		if e != api.OK || !bytes.Equal(p.Image(), want) {
			t.Error("New of sectors", sectors, e)
		}
	}
	for _, n := range []int{math.MaxInt, math.MinInt, -512, 1 << 62, 1<<32 + 1} {
		if p, e := pack.New(n, 1, 1); e != api.ErrArg || p != nil {
			t.Error("New", n, e)
		}
		if p, e := pack.New(512, n, 1); e != api.ErrArg || p != nil {
			t.Error("New of sectors", n, e)
		}
	}
}

// TestExample: the chapter's example.
func TestExample(t *testing.T) {
	p := newPack(t, 512, 1, 7)
	if p.Left() != 472 {
		t.Error("Left", p.Left())
	}
	if s := mustAppend(t, p, []byte("abc")); s != (api.Slot{Offset: 24, Length: 3}) || p.Left() != 461 {
		t.Error("Append", s, p.Left())
	}
	want := append(edge("DPAK", 7, 1), slotBytes([]byte("abc"))...)
	want = append(want, make([]byte, 512-len(want))...)
	if l := wantTaken(t, p, 0); !bytes.Equal(l[0].Bytes, want) || !bytes.Equal(p.Image(), want) {
		t.Error("the sector")
	}
}

// TestAppend: P13.1, R2: a chunk that fits to the last byte is there; one more is refused, as are no bytes, and nothing has changed.
func TestAppend(t *testing.T) {
	p := newPack(t, 512, 2, 1)
	wantRefused(t, p, nil, api.ErrArg)
	wantRefused(t, p, []byte{}, api.ErrArg)
	wantRefused(t, p, long(985), api.ErrFull)
	wantRefused(t, p, long(1<<20), api.ErrFull)
	if s := mustAppend(t, p, long(900)); s != (api.Slot{Offset: 24, Length: 900}) || p.Left() != 76 {
		t.Error("Append", s, p.Left())
	}
	wantRefused(t, p, long(77), api.ErrFull)
	if s := mustAppend(t, p, long(76)); s != (api.Slot{Offset: 932, Length: 76}) || p.Left() != 0 {
		t.Error("Append", s, p.Left())
	}
	wantRefused(t, p, long(1), api.ErrFull)
	wantRefused(t, p, nil, api.ErrArg)
	if !slices.Equal(p.Slots(), []api.Slot{{Offset: 24, Length: 900}, {Offset: 932, Length: 76}}) || p.Mark() != 2 {
		t.Error("Slots", p.Slots())
	}
}

// TestLastBytes: P13.1: with nine bytes of the room free a chunk of one fits; with fewer Left is 0, and none does.
func TestLastBytes(t *testing.T) {
	for free := range 20 {
		p := newPack(t, 512, 1, 1)
		mustAppend(t, p, long(472-free))
		if p.Left() != max(free-8, 0) {
			t.Error("Left with", free, "free:", p.Left())
		}
		if free < 9 {
			wantRefused(t, p, long(1), api.ErrFull)
		} else {
			wantRefused(t, p, long(free-7), api.ErrFull)
			mustAppend(t, p, long(free-8))
		}
	}
}

// TestGreatest: P13.1, P13.5: the greatest container there is, filled by one chunk, and by as many as can be.
func TestGreatest(t *testing.T) {
	p := newPack(t, 4096, 64, 3)
	whole := p.Fork()
	if s := mustAppend(t, whole, long(262104)); s.Length != 262104 || whole.Left() != 0 {
		t.Error("one chunk", s, whole.Left())
	}
	n := 0
	for p.Left() > 0 {
		mustAppend(t, p, long(1))
		n++
	}
	if n != 262112/9 || p.Mark() != n || p.Seal() != api.OK {
		t.Error("chunks", n, p.Mark())
	}
	for _, x := range []*pack.Pack{p, whole} {
		id, l, sealed, e := pack.Scan(4096, 64, x.Image())
		if id != 3 || !slices.Equal(l, x.Slots()) || sealed != (x == p) || e != api.OK || len(x.Take()) != 64 {
			t.Error("Scan", id, len(l), sealed, e)
		}
	}
}

// TestSeal: P13.2, R2: the footer; a sealed one takes nothing, not even what may not be; without slots the head's end stands in the footer.
func TestSeal(t *testing.T) {
	for _, chunks := range []int{0, 1, 5} {
		p := newPack(t, 512, 2, 8)
		for range chunks {
			mustAppend(t, p, long(20))
		}
		before := p.Image()
		wantErr(t, "Seal", p.Seal(), api.OK)
		copy(before[1024-16:], edge("DFOT", uint32(chunks), uint32(16+28*chunks)))
		if !bytes.Equal(p.Image(), before) || p.Left() != 0 || p.Mark() != chunks || len(p.Slots()) != chunks {
			t.Error("sealed with", chunks)
		}
		wantErr(t, "Seal again", p.Seal(), api.ErrClosed)
		wantRefused(t, p, long(1), api.ErrClosed)
		wantRefused(t, p, nil, api.ErrClosed)
		wantRefused(t, p, long(5000), api.ErrClosed)
	}
}

// TestBack: P13.2: so many slots, the first ones, zeros behind them; marks that may not be are refused, and nothing has changed.
func TestBack(t *testing.T) {
	p := newPack(t, 512, 3, 8)
	var images [][]byte
	for n := range 6 {
		images = append(images, p.Image())
		mustAppend(t, p, long(100+n))
	}
	for _, mark := range []int{-1, 7, 8, math.MinInt, math.MaxInt} {
		wantErr(t, "Back", p.Back(mark), api.ErrArg)
	}
	if p.Mark() != 6 {
		t.Error("Mark", p.Mark())
	}
	wantErr(t, "Back to all", p.Back(6), api.OK)
	for _, mark := range []int{5, 3, 2, 0, 0} {
		wantErr(t, "Back", p.Back(mark), api.OK)
		if p.Mark() != mark || len(p.Slots()) != mark || !bytes.Equal(p.Image(), images[mark]) {
			t.Error("Back to", mark)
		}
		wantErr(t, "Back to what is gone", p.Back(mark+1), api.ErrArg)
	}
	wantTaken(t, p, 0)
	if s := mustAppend(t, p, long(1400)); s != (api.Slot{Offset: 24, Length: 1400}) {
		t.Error("Append behind Back", s)
	}
}

// TestBackTaken: P13.2: not below the slots that there were at the last Take.
func TestBackTaken(t *testing.T) {
	p := newPack(t, 512, 3, 8)
	mustAppend(t, p, long(10))
	mustAppend(t, p, long(20))
	p.Take()
	mustAppend(t, p, long(30))
	for _, mark := range []int{-1, 0, 1, 4} {
		wantErr(t, "Back", p.Back(mark), api.ErrArg)
	}
	if p.Mark() != 3 {
		t.Error("Mark", p.Mark())
	}
	wantErr(t, "Back", p.Back(2), api.OK)
	wantTaken(t, p)
	mustAppend(t, p, long(40))
	wantTaken(t, p, 0)
	wantErr(t, "Back", p.Back(2), api.ErrArg)
	wantErr(t, "Back", p.Back(3), api.OK)
}

// TestBackSealed: P13.2: what was sealed behind the last Take is not sealed then, also with all slots; what was sealed ahead of it stays so.
func TestBackSealed(t *testing.T) {
	p := newPack(t, 512, 2, 8)
	mustAppend(t, p, long(10))
	open := p.Image()
	for range 2 {
		wantErr(t, "Seal", p.Seal(), api.OK)
		wantErr(t, "Back refused", p.Back(2), api.ErrArg)
		wantErr(t, "still sealed", p.Seal(), api.ErrClosed)
		wantErr(t, "Back", p.Back(1), api.OK)
		if !bytes.Equal(p.Image(), open) || p.Left() != 984-18 {
			t.Error("it is sealed still", p.Left())
		}
	}
	wantTaken(t, p, 0)
	mustAppend(t, p, long(10))
	p.Seal()
	wantErr(t, "Back", p.Back(1), api.OK)
	wantTaken(t, p)
	mustAppend(t, p, long(10))
	p.Seal()
	wantTaken(t, p, 0, 1)
	sealed := p.Image()
	wantErr(t, "Back below", p.Back(1), api.ErrArg)
	wantErr(t, "Back", p.Back(2), api.OK)
	wantErr(t, "Seal", p.Seal(), api.ErrClosed)
	if !bytes.Equal(p.Image(), sealed) || p.Left() != 0 {
		t.Error("it is not sealed any more")
	}
	wantTaken(t, p)
}

// TestTake: P13.3: the sectors whose bytes are others, rising; a chunk's sectors that are zeros as they were are none of them.
func TestTake(t *testing.T) {
	p := newPack(t, 512, 8, 4)
	wantTaken(t, p, 0)
	wantTaken(t, p)
	mustAppend(t, p, long(480)) // ends at 504
	wantTaken(t, p, 0)
	mustAppend(t, p, long(600)) // its head ends at 512
	wantTaken(t, p, 0, 1, 2)
	mustAppend(t, p, make([]byte, 1200)) // its head at 1112; zeros up to 2320
	wantTaken(t, p, 2)
	mustAppend(t, p, append(make([]byte, 1000), 1)) // its head at 2320, the last byte at 3328
	wantTaken(t, p, 4, 6)
	wantErr(t, "Seal", p.Seal(), api.OK)
	l := wantTaken(t, p, 7)
	want := append(make([]byte, 496), edge("DFOT", 4, 3329)...)
	if !bytes.Equal(l[0].Bytes, want) {
		t.Error("the footer's sector", l[0].Bytes)
	}
	wantTaken(t, p)
}

// TestTakeFirst: P13.3: at the first Take those that are not all zeros.
func TestTakeFirst(t *testing.T) {
	p := newPack(t, 1024, 5, 4)
	mustAppend(t, p, append(make([]byte, 2500), 7)) // the last byte at 2524
	sealed := p.Fork()
	sealed.Seal()
	l := wantTaken(t, p, 0, 2)
	for _, s := range l {
		if !bytes.Equal(s.Bytes, p.Image()[s.N*1024:(s.N+1)*1024]) {
			t.Error("sector", s.N)
		}
	}
	wantTaken(t, sealed, 0, 2, 4)
}

// TestRead: P13.3, R2: the chunk of a slot; of what is no slot ErrPack, though bytes there may look like one.
func TestRead(t *testing.T) {
	p := newPack(t, 512, 2, 4)
	inner := slotBytes([]byte("inner"))
	chunks := [][]byte{[]byte("abc"), inner, long(300), {0}}
	var slots []api.Slot
	for _, c := range chunks {
		slots = append(slots, mustAppend(t, p, c))
	}
	for range 2 {
		for i, s := range slots {
			if b, e := p.Read(s); e != api.OK || !bytes.Equal(b, chunks[i]) {
				t.Error("Read", s, e)
			}
		}
		p.Take()
		p.Seal()
	}
	looks := api.Slot{Offset: slots[1].Offset + 8, Length: 5}
	if b, e := pack.Chunk(p.Image(), looks); e != api.OK || string(b) != "inner" {
		t.Error("Chunk within a chunk", e)
	}
	for _, s := range []api.Slot{{}, looks, {Offset: 24, Length: 2}, {Offset: 24, Length: 4}, {Offset: 23, Length: 3}, {Offset: 24}, {Offset: 24, Length: -3}, {Offset: -24, Length: 3}, {Offset: 1 << 40, Length: 1}, {Offset: math.MaxInt, Length: math.MaxInt}, {Offset: math.MinInt, Length: math.MinInt}} {
		if b, e := p.Read(s); e != api.ErrPack || len(b) != 0 {
			t.Error("Read of no slot", s, e)
		}
	}
}

// TestReadBack: P13.2, P13.3: a slot that was taken back is none any more.
func TestReadBack(t *testing.T) {
	p := newPack(t, 512, 2, 4)
	a, b := mustAppend(t, p, long(5)), mustAppend(t, p, long(6))
	wantErr(t, "Back", p.Back(1), api.OK)
	if _, e := p.Read(b); e != api.ErrPack {
		t.Error("Read of a slot that is gone", e)
	}
	if got, e := p.Read(a); e != api.OK || !bytes.Equal(got, long(5)) {
		t.Error("Read", e)
	}
}

// TestFork: P13.3: a fork is the same, what was taken too; what is done to one is not done to the other.
func TestFork(t *testing.T) {
	p := newPack(t, 512, 3, 4)
	mustAppend(t, p, long(600))
	p.Take()
	mustAppend(t, p, []byte("both"))
	other := p.Fork()
	if !bytes.Equal(other.Image(), p.Image()) || !slices.Equal(other.Slots(), p.Slots()) || other.Left() != p.Left() || other.Mark() != 2 {
		t.Error("a fork")
	}
	wantErr(t, "Back of the fork", other.Fork().Back(0), api.ErrArg)
	s := mustAppend(t, p, []byte("first"))
	if o := mustAppend(t, other, []byte("other")); o != s {
		t.Error("the same slot", o, s)
	}
	a, _ := p.Read(s)
	b, _ := other.Read(s)
	if string(a) != "first" || string(b) != "other" {
		t.Errorf("%q and %q", a, b)
	}
	other.Seal()
	wantTaken(t, p, 1)
	wantTaken(t, other, 1, 2)
	sealed := other.Fork()
	wantErr(t, "Seal of a sealed one's fork", sealed.Seal(), api.ErrClosed)
	wantErr(t, "Back of it", sealed.Back(3), api.OK)
	wantErr(t, "Seal of it", sealed.Seal(), api.ErrClosed)
	wantErr(t, "Back", p.Back(2), api.ErrArg)
	mustAppend(t, p, long(3))
}

// TestNotMade: P13.3, R1: of a Pack that is nil, or that New did not give.
func TestNotMade(t *testing.T) {
	for _, p := range []*pack.Pack{nil, {}} {
		for _, b := range [][]byte{nil, long(1)} {
			if s, e := p.Append(b); e != api.ErrClosed || s != (api.Slot{}) {
				t.Error("Append", s, e)
			}
		}
		for _, mark := range []int{-1, 0, 1} {
			wantErr(t, "Back", p.Back(mark), api.ErrClosed)
		}
		wantErr(t, "Seal", p.Seal(), api.ErrClosed)
		if b, e := p.Read(api.Slot{Offset: 24, Length: 1}); e != api.ErrClosed || len(b) != 0 {
			t.Error("Read", e)
		}
		if p.Left() != 0 || p.Mark() != 0 || len(p.Take()) != 0 || len(p.Slots()) != 0 || len(p.Image()) != 0 || p.Fork() != nil {
			t.Error("of one that nobody gave")
		}
	}
}

// spoil overwrites a list, and the room behind its end.
func spoil[T any](l []T, x T) {
	l = l[:cap(l)]
	for i := range l {
		l[i] = x
	}
}

// TestShares: R3: what is handed in is neither kept nor changed; what is told shares nothing with the container, nor with one another.
func TestShares(t *testing.T) {
	p, q := newPack(t, 512, 2, 4), newPlain(512, 2, 4)
	room := long(30)
	mustAppend(t, p, room[:20])
	q.append(room[:20])
	mustAppend(t, p, []byte("next"))
	q.append([]byte("next"))
	if !bytes.Equal(room, long(30)) {
		t.Error("what was handed in has changed")
	}
	spoil(room, 0xff)
	other := p.Fork()
	l := p.Take()
	q.take()
	for _, s := range l {
		spoil(s.Bytes, 0xff)
	}
	spoil(p.Slots(), api.Slot{Offset: 1, Length: 1})
	b, _ := p.Read(p.Slots()[0])
	spoil(b, 0xff)
	spoil(p.Image(), 0xff)
	wantSame(t, p, q)
	wantTakes(t, p, q)
	image := other.Image()
	_, slots, _, _ := pack.Scan(512, 2, image)
	b, _ = pack.Chunk(image, slots[0])
	spoil(b, 0xff)
	spoil(slots, api.Slot{})
	if !bytes.Equal(image, q.image()) {
		t.Error("Chunk shares with the bytes that were handed in")
	}
	wantSame(t, other, q)
}

// TestTakenApart: R3: sectors that are taken share nothing with one another.
func TestTakenApart(t *testing.T) {
	p := newPack(t, 512, 4, 4)
	mustAppend(t, p, long(1900))
	image := p.Image()
	l := wantTaken(t, p, 0, 1, 2, 3)
	for i, s := range l {
		if len(s.Bytes) != 512 || !bytes.Equal(s.Bytes, image[i*512:(i+1)*512]) {
			t.Error("sector", i)
		}
		spoil(s.Bytes, 0xff)
	}
}
