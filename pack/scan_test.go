package pack_test

import (
	"bytes"
	"encoding/binary"
	"math"
	"math/rand"
	"slices"
	"testing"

	"dedup/api"
	"dedup/pack"
)

// image is a container's bytes: a head, these bytes behind it, zeros, and a footer, if there is one.
func image(size, sectors int, id uint32, room, foot []byte) []byte {
	b := make([]byte, size*sectors)
	copy(b, edge("DPAK", id, uint32(sectors)))
	copy(b[16:], room)
	copy(b[len(b)-16:], foot)
	return b
}

// wantScan holds what any bytes are.
func wantScan(t *testing.T, what string, size, sectors int, b []byte, id uint32, sealed bool, want ...api.Slot) {
	t.Helper()
	was := slices.Clone(b)
	got, l, is, e := pack.Scan(size, sectors, b)
	if got != id || !slices.Equal(l, want) || is != sealed || e != api.OK {
		t.Errorf("%s: %d, %v, %v, error %d; want %d, %v, %v", what, got, l, is, e, id, want, sealed)
	}
	if !bytes.Equal(b, was) {
		t.Error(what, "has changed what was handed in")
	}
}

// wantNone holds that bytes are refused.
func wantNone(t *testing.T, what string, size, sectors int, b []byte, want api.Errno) {
	t.Helper()
	id, l, sealed, e := pack.Scan(size, sectors, b)
	if e != want || id != 0 || len(l) != 0 || sealed {
		t.Errorf("%s: %d, %v, %v, error %d, want %d", what, id, l, sealed, e, want)
	}
}

// TestScanArguments: P13.4: sizes, numbers of sectors and lengths that may not be, ahead of heads that are none.
func TestScanArguments(t *testing.T) {
	good := image(512, 2, 7, nil, nil)
	wantScan(t, "a new one", 512, 2, good, 7, false)
	for _, c := range []struct{ size, sectors int }{{511, 2}, {513, 2}, {0, 2}, {-512, -2}, {256, 4}, {8192, 1}, {768, 2}, {512, 0}, {512, -1}, {512, 65}, {math.MaxInt, 2}, {512, math.MaxInt}, {512, 1 << 55}, {math.MinInt, math.MinInt}, {1 << 32, 1 << 32}} {
		wantNone(t, "numbers that may not be", c.size, c.sectors, good, api.ErrArg)
		wantNone(t, "numbers that may not be, no bytes", c.size, c.sectors, nil, api.ErrArg)
	}
	for _, n := range []int{0, 1, 16, 512, 1023} {
		wantNone(t, "too few bytes", 512, 2, good[:n], api.ErrArg)
	}
	wantNone(t, "too many bytes", 512, 2, append(slices.Clone(good), 0), api.ErrArg)
	wantNone(t, "another number of sectors", 512, 3, good, api.ErrArg)
	wantNone(t, "no bytes", 512, 2, nil, api.ErrArg)
	wantNone(t, "65 sectors", 512, 65, image(512, 65, 1, nil, nil), api.ErrArg)
	wantScan(t, "64 sectors", 4096, 64, image(4096, 64, math.MaxUint32, nil, nil), math.MaxUint32, false)
	wantScan(t, "one sector", 512, 1, image(512, 1, 0, nil, nil), 0, false)
}

// TestScanHead: P13.4: bytes without such a head, each bit of which counts, and its number of sectors.
func TestScanHead(t *testing.T) {
	good := image(512, 2, 7, slotBytes([]byte("abc")), nil)
	for bit := range 128 {
		b := slices.Clone(good)
		b[bit/8] ^= 1 << (bit % 8)
		wantNone(t, "a bit of the head turned", 512, 2, b, api.ErrPack)
	}
	wantNone(t, "zeros", 512, 2, make([]byte, 1024), api.ErrPack)
	wantNone(t, "others", 512, 2, long(1024), api.ErrPack)
	wantNone(t, "another size of sectors", 1024, 1, good, api.ErrPack)
	for _, n := range []uint32{0, 1, 3, 2 << 8, 2 << 24} {
		b := slices.Clone(good)
		copy(b, edge("DPAK", 7, n))
		wantNone(t, "a head of other sectors", 512, 2, b, api.ErrPack)
	}
	for _, letters := range []string{"DFOT", "dpak", "DPA\x00", "KAPD"} {
		b := slices.Clone(good)
		copy(b, edge(letters, 7, 2))
		wantNone(t, letters, 512, 2, b, api.ErrPack)
	}
}

// rawSlot is a slot of any length and check sum.
func rawSlot(length uint32, sum []byte, chunk []byte) []byte {
	b := binary.BigEndian.AppendUint32(nil, length)
	return append(append(b, sum...), chunk...)
}

// TestScanSlots: P13.4: slots up to the first one that is none: by its length, by its check sum, by the room's end.
func TestScanSlots(t *testing.T) {
	a, b := slotBytes([]byte("abc")), slotBytes([]byte("defg"))
	first, second := api.Slot{Offset: 24, Length: 3}, api.Slot{Offset: 35, Length: 4}
	scan := func(what string, room []byte, want ...api.Slot) {
		t.Helper()
		wantScan(t, what, 512, 1, image(512, 1, 7, room, nil), 7, false, want...)
	}
	scan("two", append(slices.Clone(a), b...), first, second)
	scan("zeros between", append(append(slices.Clone(a), 0), b...), first)
	scan("a byte ahead", append([]byte{1}, a...))
	scan("what stands behind", append(append(slices.Clone(a), b...), long(200)...), first, second)
	none := rawSlot(0, sum(make([]byte, 4)), nil)
	scan("a length of 0 with its check sum", append(append(slices.Clone(a), none...), b...), first)
	for _, length := range []uint32{1, 3, 5, 470, 1 << 16, 1 << 31, math.MaxUint32} {
		scan("another length", append(slices.Clone(a), rawSlot(length, b[4:8], b[8:])...), first)
	}
	for bit := range 8 * len(b) {
		x := slices.Clone(b)
		x[bit/8] ^= 1 << (bit % 8)
		scan("a bit turned", append(slices.Clone(a), x...), first)
		scan("a bit of the first one turned", append(x, a...))
	}
	scan("the check sum of the chunk alone", rawSlot(3, sum([]byte("abc")), []byte("abc")))
}

// TestScanRoom: P13.4: a slot lies within the room: one that ends with it is there, one that goes on into the footer's bytes is not, though its check sum is right.
func TestScanRoom(t *testing.T) {
	for more := range 17 {
		chunk := long(472 + more)
		b := image(512, 1, 7, slotBytes(chunk), nil)
		if more == 0 {
			wantScan(t, "up to the room's end", 512, 1, b, 7, false, api.Slot{Offset: 24, Length: 472})
			continue
		}
		wantScan(t, "into the footer", 512, 1, b, 7, false)
		if got, e := pack.Chunk(b, api.Slot{Offset: 24, Length: len(chunk)}); e != api.OK || !bytes.Equal(got, chunk) {
			t.Error("Chunk of any bytes", more, e)
		}
	}
	for gap := range 12 { // the second slot's 8 bytes at the room's end, or beyond it
		fill := slotBytes(long(472 - gap))
		b := image(512, 1, 7, fill, nil)
		copy(b[16+len(fill):], slotBytes(long(1)))
		want := []api.Slot{{Offset: 24, Length: 472 - gap}}
		if gap >= 9 {
			want = append(want, api.Slot{Offset: 504 - gap, Length: 1})
		}
		wantScan(t, "at the room's end", 512, 1, b, 7, false, want...)
	}
}

// TestScanSealed: P13.4: sealed, if the footer stands there and says just these slots.
func TestScanSealed(t *testing.T) {
	room := append(slotBytes([]byte("abc")), slotBytes([]byte("de"))...)
	slots := []api.Slot{{Offset: 24, Length: 3}, {Offset: 35, Length: 2}}
	good := edge("DFOT", 2, 37)
	wantScan(t, "sealed", 512, 2, image(512, 2, 7, room, good), 7, true, slots...)
	wantScan(t, "not sealed", 512, 2, image(512, 2, 7, room, nil), 7, false, slots...)
	for bit := range 128 {
		x := slices.Clone(good)
		x[bit/8] ^= 1 << (bit % 8)
		wantScan(t, "a bit of the footer turned", 512, 2, image(512, 2, 7, room, x), 7, false, slots...)
	}
	for _, x := range [][]byte{edge("DFOT", 1, 37), edge("DFOT", 3, 37), edge("DFOT", 2, 27), edge("DFOT", 2, 38), edge("DFOT", 2, 21), edge("DPAK", 2, 37), edge("DFOT", 37, 2)} {
		wantScan(t, "a footer that says others", 512, 2, image(512, 2, 7, room, x), 7, false, slots...)
	}
	wantScan(t, "without slots", 512, 2, image(512, 2, 7, nil, edge("DFOT", 0, 16)), 7, true)
	wantScan(t, "without slots, its end 0", 512, 2, image(512, 2, 7, nil, edge("DFOT", 0, 0)), 7, false)
	spoilt := image(512, 2, 7, room, good)
	spoilt[36] ^= 1
	wantScan(t, "its last slot spoilt", 512, 2, spoilt, 7, false, slots[0])
	behind := image(512, 2, 7, room, good)
	behind[700] = 1
	wantScan(t, "something behind the slots", 512, 2, behind, 7, true, slots...)
}

// wantNoChunk holds that there is no such chunk.
func wantNoChunk(t *testing.T, what string, b []byte, s api.Slot) {
	t.Helper()
	if got, e := pack.Chunk(b, s); e != api.ErrPack || len(got) != 0 {
		t.Errorf("%s: Chunk at %v of %d bytes: %d bytes, error %d", what, s, len(b), len(got), e)
	}
}

// TestChunk: P13.4: of any bytes, at any place; the 8 bytes and the chunk lie within them.
func TestChunk(t *testing.T) {
	chunk := []byte("some chunk")
	for at := range 30 {
		b := append(append(long(at), slotBytes(chunk)...), long(at)...)
		was, s := slices.Clone(b), api.Slot{Offset: at + 8, Length: 10}
		if got, e := pack.Chunk(b, s); e != api.OK || !bytes.Equal(got, chunk) || !bytes.Equal(b, was) {
			t.Error("Chunk at", at, e)
		}
		for n := range at + 18 {
			wantNoChunk(t, "cut off", b[:n:n], s)
		}
		for _, n := range []int{-1, 1} {
			wantNoChunk(t, "another place", b, api.Slot{Offset: s.Offset + n, Length: 10})
			wantNoChunk(t, "another length", b, api.Slot{Offset: s.Offset, Length: 10 + n})
		}
		for bit := range 8 * 18 {
			x := slices.Clone(b)
			x[at+bit/8] ^= 1 << (bit % 8)
			wantNoChunk(t, "a bit turned", x, s)
		}
		if at > 0 {
			wantNoChunk(t, "without all its 8 bytes", b[at+1:], api.Slot{Offset: 7, Length: 10})
		}
	}
}

// TestNoChunk: P13.4, R1: slots that may not be, whatever stands there.
func TestNoChunk(t *testing.T) {
	none := append(rawSlot(0, sum(make([]byte, 4)), nil), long(50)...)
	wantNoChunk(t, "a length of 0", none, api.Slot{Offset: 8})
	numbers := []int{0, 1, 7, 8, 9, 3, -1, -8, 58, 1 << 31, 1 << 32, 1<<32 + 3, math.MaxInt, math.MaxInt - 7, math.MinInt, math.MinInt + 8}
	for _, b := range [][]byte{nil, none, slotBytes([]byte("abc")), make([]byte, 7), make([]byte, 8), make([]byte, 58)} {
		for _, offset := range numbers {
			for _, length := range numbers {
				s := api.Slot{Offset: offset, Length: length}
				if s != (api.Slot{Offset: 8, Length: 3}) || len(b) != 11 {
					wantNoChunk(t, "may not be", b, s)
				}
			}
		}
	}
}

// TestScanAnything: P13.4, R1: bytes by chance behind a head, and containers of which bytes are spoilt: the slots are those that the chapter's words find.
func TestScanAnything(t *testing.T) {
	r := rand.New(rand.NewSource(134))
	for range 3000 {
		size, sectors := 512<<r.Intn(2), 1+r.Intn(3)
		p := newPlain(size, sectors, r.Uint32())
		for range r.Intn(20) {
			p.append(someChunk(r, p.left()))
		}
		p.sealed = r.Intn(2) == 0
		b := p.image()
		for range r.Intn(4) {
			b[16+r.Intn(len(b)-16)] = byte(r.Intn(256))
		}
		if r.Intn(5) == 0 {
			r.Read(b[16+r.Intn(len(b)-16):])
		}
		var want []api.Slot
		end := 16
		for end+8 <= len(b)-16 {
			n := int(binary.BigEndian.Uint32(b[end:]))
			if n < 1 || end+8+n > len(b)-16 || !bytes.Equal(b[end:end+8+n], slotBytes(b[end+8:end+8+n])) {
				break
			}
			want = append(want, api.Slot{Offset: end + 8, Length: n})
			end += 8 + n
		}
		sealed := bytes.Equal(b[len(b)-16:], edge("DFOT", uint32(len(want)), uint32(end)))
		wantScan(t, "anything", size, sectors, b, p.id, sealed, want...)
	}
}
