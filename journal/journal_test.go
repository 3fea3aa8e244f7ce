package journal_test

import (
	"bytes"
	"encoding/binary"
	"hash/crc32"
	"math"
	"slices"
	"strings"
	"testing"

	"dedup/api"
	"dedup/journal"
)

// newWriter is a journal without records.
func newWriter(t *testing.T, size, sectors int, generation uint64) *journal.Writer {
	t.Helper()
	w, e := journal.New(size, sectors, generation)
	if e != api.OK || w == nil {
		t.Fatal("New", size, sectors, e)
	}
	return w
}

// appendAll appends records, none of which is refused.
func appendAll(t *testing.T, w *journal.Writer, records ...string) {
	t.Helper()
	for _, rec := range records {
		if e := w.Append(rec); e != api.OK {
			t.Fatal("Append of", len(rec), e)
		}
	}
}

// wantErr holds what a call told.
func wantErr(t *testing.T, what string, got, want api.Errno) {
	t.Helper()
	if got != want {
		t.Errorf("%s: error %d, want %d", what, got, want)
	}
}

// wantState holds what is told of a journal.
func wantState(t *testing.T, w *journal.Writer, left, records int) {
	t.Helper()
	if w.Left() != left || w.Records() != records {
		t.Errorf("left %d, records %d, want %d, %d", w.Left(), w.Records(), left, records)
	}
}

// wantTaken takes, and holds the sectors' places; it is what was taken.
func wantTaken(t *testing.T, w *journal.Writer, places ...int) []api.Sector {
	t.Helper()
	l := w.Take()
	var got []int
	for _, s := range l {
		got = append(got, s.N)
	}
	if !slices.Equal(got, places) {
		t.Errorf("taken %v, want %v", got, places)
	}
	return l
}

// long is a record of so many bytes.
func long(n int) string { return strings.Repeat("r", n) }

// sector is a journal's sector by the chapter's words; its check sum is the library's.
func sector(size int, generation uint64, place, used int, room []byte) []byte {
	b := []byte("DJRN")
	b = binary.BigEndian.AppendUint64(b, generation)
	b = binary.BigEndian.AppendUint32(b, uint32(place))
	b = binary.BigEndian.AppendUint32(b, uint32(used))
	room = append(slices.Clone(room), make([]byte, size-24-len(room))...)
	return withSum(append(slices.Clone(b), room...), b, room)
}

// withSum is a head, the library's check sum of some bytes, and a room.
func withSum(summed, head, room []byte) []byte {
	sum := crc32.Checksum(summed, crc32.MakeTable(crc32.Castagnoli))
	return append(binary.BigEndian.AppendUint32(slices.Clone(head), sum), room...)
}

// framed is records as they lie in the rooms.
func framed(records ...string) []byte {
	var b []byte
	for _, rec := range records {
		b = binary.BigEndian.AppendUint32(b, uint32(len(rec)))
		b = append(b, rec...)
	}
	return b
}

// TestNew: P7.1, which sizes and numbers of sectors may be, and that nothing was appended.
func TestNew(t *testing.T) {
	for size := -5; size <= 2*api.MaxSector+1; size++ {
		w, e := journal.New(size, 3, 1)
		if size == 512 || size == 1024 || size == 2048 || size == 4096 {
			if e != api.OK || w.Left() != 3*(size-24)-4 || w.Records() != 0 || len(w.Take()) != 0 {
				t.Error("New", size, e)
			}
		} else if e != api.ErrArg || w != nil {
			t.Error("New", size, "is not refused")
		}
	}
	for _, sectors := range []int{1, 2, 3, 4095, 4096} {
		wantState(t, newWriter(t, 4096, sectors, 0), sectors*4072-4, 0)
	}
	for _, sectors := range []int{0, -1, 4097, 1 << 32, math.MaxInt, math.MinInt} {
		if w, e := journal.New(512, sectors, 1); e != api.ErrArg || w != nil {
			t.Error("New of sectors", sectors, e)
		}
	}
	for _, size := range []int{math.MaxInt, math.MinInt, -512, 1 << 62} {
		if w, e := journal.New(size, 1, 1); e != api.ErrArg || w != nil {
			t.Error("New", size, e)
		}
	}
}

// TestExample: the chapter's example.
func TestExample(t *testing.T) {
	w := newWriter(t, 512, 2, 7)
	wantState(t, w, 972, 0)
	appendAll(t, w, "abc")
	l := wantTaken(t, w, 0)
	if !bytes.Equal(l[0].Bytes, sector(512, 7, 0, 7, framed("abc"))) {
		t.Error("sector 0", l[0].Bytes)
	}
	wantState(t, w, 484, 1)
	wantErr(t, "Append of 485", w.Append(long(485)), api.ErrFull)
	wantErr(t, "Append of 484", w.Append(long(484)), api.OK)
}

// TestAppend: P7.1: a record that fits to the last byte stands there; one more does not, and nothing has changed.
func TestAppend(t *testing.T) {
	w := newWriter(t, 512, 1, 1)
	wantErr(t, "one too long", w.Append(long(485)), api.ErrFull)
	wantState(t, w, 484, 0)
	appendAll(t, w, long(400))
	wantState(t, w, 80, 1)
	wantErr(t, "one too long", w.Append(long(81)), api.ErrFull)
	wantState(t, w, 80, 1)
	appendAll(t, w, long(80))
	wantState(t, w, 0, 2)
	wantErr(t, "an empty one", w.Append(""), api.ErrFull)
	l := wantTaken(t, w, 0)
	if !bytes.Equal(l[0].Bytes, sector(512, 1, 0, 488, framed(long(400), long(80)))) {
		t.Error("what was refused stands there")
	}
	wantState(t, w, 0, 2)
	wantErr(t, "behind the last sector", w.Append(""), api.ErrFull)
	wantTaken(t, w)
}

// TestLastBytes: P7.1: Left is 0 with four bytes free, where an empty record fits, and with fewer, where none does.
func TestLastBytes(t *testing.T) {
	for free := range 8 {
		w := newWriter(t, 512, 1, 1)
		appendAll(t, w, long(484-free))
		wantState(t, w, max(free-4, 0), 1)
		want := api.OK
		if free < 4 {
			want = api.ErrFull
		}
		wantErr(t, "an empty record", w.Append(""), want)
	}
}

// TestLong: P7.1, R2: 65536 bytes are the most; more are ErrLong, also where there is no room; Left tells the rooms alone.
func TestLong(t *testing.T) {
	w := newWriter(t, 4096, 40, 1)
	wantState(t, w, 40*4072-4, 0)
	wantErr(t, "Append of 65537", w.Append(long(65537)), api.ErrLong)
	wantErr(t, "Append of 2^20", w.Append(long(1<<20)), api.ErrLong)
	wantState(t, w, 40*4072-4, 0)
	appendAll(t, w, long(65536))
	wantState(t, w, 40*4072-4-65540, 1)
	small := newWriter(t, 512, 1, 1)
	wantErr(t, "Append of 65537 without room", small.Append(long(65537)), api.ErrLong)
	wantErr(t, "Append of 65536 without room", small.Append(long(65536)), api.ErrFull)
	wantState(t, small, 484, 0)
}

// TestLeftFits: P7.1: a record of Left bytes fits, one of a byte more does not.
func TestLeftFits(t *testing.T) {
	w := newWriter(t, 512, 9, 3)
	for n := 0; w.Left() > n; n += 7 {
		wantErr(t, "Left and one", w.Fork().Append(long(w.Left()+1)), api.ErrFull)
		full := w.Fork()
		wantErr(t, "Left", full.Append(long(w.Left())), api.OK)
		wantState(t, full, 0, w.Records()+1)
		appendAll(t, w, long(n))
		if n%3 == 0 {
			w.Take()
		}
	}
}

// TestTake: P7.2: sectors in order, each with its place; the last one is closed, and what comes next begins in the next one.
func TestTake(t *testing.T) {
	w := newWriter(t, 512, 6, 1<<63+5)
	wantTaken(t, w)
	first := framed("a", "", long(600), "b")
	appendAll(t, w, "a", "", long(600), "b")
	l := wantTaken(t, w, 0, 1)
	if !bytes.Equal(l[0].Bytes, sector(512, 1<<63+5, 0, 488, first[:488])) {
		t.Error("the first one")
	}
	if !bytes.Equal(l[1].Bytes, sector(512, 1<<63+5, 1, len(first)-488, first[488:])) {
		t.Error("the second one")
	}
	wantState(t, w, 4*488-4, 4)
	wantTaken(t, w)
	wantState(t, w, 4*488-4, 4)
	appendAll(t, w, "c")
	l = wantTaken(t, w, 2)
	if !bytes.Equal(l[0].Bytes, sector(512, 1<<63+5, 2, 5, framed("c"))) {
		t.Error("the third one")
	}
	wantState(t, w, 3*488-4, 5)
}

// TestTakeFullRooms: P7.2: rooms that are full to the last byte are no sector more.
func TestTakeFullRooms(t *testing.T) {
	for _, size := range []int{512, 1024, 2048, 4096} {
		room := size - 24
		w := newWriter(t, size, 5, 2)
		appendAll(t, w, long(2*room-4))
		l := wantTaken(t, w, 0, 1)
		b := framed(long(2*room - 4))
		for i, s := range l {
			if !bytes.Equal(s.Bytes, sector(size, 2, i, room, b[i*room:(i+1)*room])) {
				t.Error("sector", size, i)
			}
		}
		appendAll(t, w, long(room-3))
		wantTaken(t, w, 2, 3)
		appendAll(t, w, long(room-5))
		wantTaken(t, w, 4)
		wantState(t, w, 0, 3)
		wantErr(t, "Append", w.Append(""), api.ErrFull)
	}
}

// TestGreatest: P7.1, P7.2, P7.5: the greatest journal there is, filled.
func TestGreatest(t *testing.T) {
	w := newWriter(t, 4096, 4096, math.MaxUint64)
	n := 0
	for w.Left() > 0 {
		appendAll(t, w, long(min(w.Left(), 65536)))
		n++
	}
	l := w.Take()
	image := make([]byte, 4096*4096)
	lay(image, 4096, l)
	if len(l) != 4096 || w.Records() != n || w.Append("") != api.ErrFull {
		t.Error("Take", len(l), w.Records())
	}
	if got, e := journal.Scan(4096, math.MaxUint64, image); e != api.OK || len(got) != n {
		t.Error("Scan", len(got), "of", n, e)
	}
	if got, e := journal.Sectors(4096, math.MaxUint64, image); e != api.OK || got != 4096 {
		t.Error("Sectors", got, e)
	}
}

// TestFork: P7.4: a fork is the same; what is done to one is not done to the other.
func TestFork(t *testing.T) {
	w := newWriter(t, 512, 4, 9)
	appendAll(t, w, "taken")
	w.Take()
	appendAll(t, w, "one")
	other := w.Fork()
	wantState(t, other, w.Left(), 2)
	appendAll(t, w, "two")
	appendAll(t, other, "three!")
	wantState(t, w, 3*488-4-7-7, 3)
	wantState(t, other, 3*488-4-7-10, 3)
	a, b := wantTaken(t, w, 1), wantTaken(t, other, 1)
	if !bytes.Equal(a[0].Bytes, sector(512, 9, 1, 14, framed("one", "two"))) {
		t.Error("the first one's")
	}
	if !bytes.Equal(b[0].Bytes, sector(512, 9, 1, 17, framed("one", "three!"))) {
		t.Error("the fork's")
	}
	third := other.Fork()
	wantTaken(t, third)
	appendAll(t, third, "x")
	wantTaken(t, third, 2)
	wantTaken(t, other)
}

// TestNotMade: P7.4, R1: of a Writer that is nil, or that New did not give.
func TestNotMade(t *testing.T) {
	for _, w := range []*journal.Writer{nil, {}} {
		wantErr(t, "Append", w.Append("a"), api.ErrClosed)
		wantErr(t, "Append", w.Append(long(65537)), api.ErrClosed)
		wantState(t, w, 0, 0)
		if w.Take() != nil || w.Fork() != nil {
			t.Error("Take or Fork of none")
		}
	}
}

// TestNothingShared: R3: what was taken is new memory: to change it changes neither its neighbours nor the journal.
func TestNothingShared(t *testing.T) {
	w := newWriter(t, 512, 9, 4)
	appendAll(t, w, long(700))
	again := w.Fork()
	l := w.Take()
	for i := range l {
		b := l[i].Bytes
		for j := range b[:cap(b)] {
			b[:cap(b)][j] = 0xff
		}
	}
	for i, s := range again.Take() {
		if bytes.Contains(s.Bytes, []byte{0xff, 0xff}) || s.N != i {
			t.Error("shared", i)
		}
	}
	appendAll(t, w, "next")
	if l := wantTaken(t, w, 2); !bytes.Equal(l[0].Bytes, sector(512, 4, 2, 8, framed("next"))) {
		t.Error("what follows")
	}
}
