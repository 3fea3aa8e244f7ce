package layout_test

import (
	"bytes"
	"encoding/binary"
	"hash/crc32"
	"math"
	"math/rand"
	"slices"
	"testing"

	"dedup/api"
	"dedup/layout"
)

// body is a superblock's body as the chapter tells it, whether it may be or not.
func body(x api.Super, dedup byte) []byte {
	s := x.Shape
	b := binary.BigEndian.AppendUint64(nil, x.Generation)
	for _, n := range []int{x.Root, s.Sector, s.Sectors, s.Journal, s.Pack, s.Cut.Min, s.Cut.Normal, s.Cut.Max} {
		b = binary.BigEndian.AppendUint32(b, uint32(n))
	}
	b = binary.BigEndian.AppendUint64(b, s.Cut.Seed)
	b = binary.BigEndian.AppendUint16(b, uint16(s.Bits))
	return append(b, dedup)
}

// framed is a frame of a kind, with zeros behind it, size bytes in all.
func framed(kind byte, body []byte, size int) []byte {
	b := []byte{'D', 'F', kind, 0}
	b = binary.BigEndian.AppendUint32(b, uint32(len(body)))
	b = append(b, body...)
	b = binary.BigEndian.AppendUint32(b, crc32.Checksum(b, crc32.MakeTable(crc32.Castagnoli)))
	return append(b, make([]byte, size-len(b))...)
}

// plainSuper is a superblock's bytes as the chapter tells them.
func plainSuper(x api.Super) []byte {
	dedup := byte(0)
	if x.Shape.Dedup {
		dedup = 1
	}
	return framed('S', body(x, dedup), x.Shape.Sector)
}

// encode is a superblock's bytes; it must be one that may be.
func encode(t *testing.T, x api.Super) []byte {
	t.Helper()
	b, e := layout.EncodeSuper(x)
	if e != api.OK {
		t.Fatal("EncodeSuper", x, e)
	}
	return b
}

// someSuper is a superblock that may be, by chance.
func someSuper(r *rand.Rand) api.Super {
	var s api.Shape
	s.Sector = 512 << r.Intn(4)
	s.Sectors = 16 + r.Intn(4096-15)
	s.Journal = 2 + r.Intn(s.Sectors/4-1)
	s.Pack = 2 + r.Intn(63)
	room := s.Pack*s.Sector - 40
	s.Cut.Normal = 16 << r.Intn(13)
	for s.Cut.Normal > room {
		s.Cut.Normal /= 2
	}
	s.Cut.Min = 1 + r.Intn(s.Cut.Normal)
	s.Cut.Max = s.Cut.Normal + r.Intn(min(8*s.Cut.Normal, room)-s.Cut.Normal+1)
	s.Cut.Seed = r.Uint64()
	s.Bits = r.Intn(257)
	s.Dedup = r.Intn(2) == 0
	data := 2 + s.Journal
	root := data + r.Intn(s.Sectors-data)
	if r.Intn(4) == 0 {
		root = 0
	}
	return api.Super{Generation: r.Uint64(), Root: root, Shape: s}
}

// TestCheckSuper: P4.2: the shape is looked at first, then the root: 0 or a data sector.
func TestCheckSuper(t *testing.T) {
	s := shape()
	bad := with(func(s *api.Shape) { s.Bits = 257 })
	for root := -3; root < 40; root++ {
		want := api.ErrSuper
		if root == 0 || root >= 8 && root < 32 {
			want = api.OK
		}
		if e := layout.CheckSuper(api.Super{Generation: 4, Root: root, Shape: s}); e != want {
			t.Error("CheckSuper", root, e, want)
		}
		if e := layout.CheckSuper(api.Super{Root: root, Shape: bad}); e != api.ErrShape {
			t.Error("CheckSuper of a shape that may not be", root, e)
		}
	}
	for _, root := range []int{math.MaxInt, math.MinInt, 1<<32 + 8, 1 << 32} {
		if e := layout.CheckSuper(api.Super{Root: root, Shape: s}); e != api.ErrSuper {
			t.Error("CheckSuper", root, e)
		}
	}
	for _, g := range []uint64{0, 1, math.MaxUint64} {
		if e := layout.CheckSuper(api.Super{Generation: g, Shape: s}); e != api.OK {
			t.Error("CheckSuper of generation", g, e)
		}
	}
	if e := layout.CheckSuper(api.Super{}); e != api.ErrShape {
		t.Error("CheckSuper of the zero one", e)
	}
}

// TestEncodeSuper: P4.2: the bytes are those of the chapter; what CheckSuper refuses is refused.
func TestEncodeSuper(t *testing.T) {
	x := api.Super{Generation: 0x0102030405060708, Root: 9, Shape: shape()}
	want := append([]byte{'D', 'F', 83, 0, 0, 0, 0, 51,
		1, 2, 3, 4, 5, 6, 7, 8,
		0, 0, 0, 9,
		0, 0, 2, 0, 0, 0, 0, 32, 0, 0, 0, 6, 0, 0, 0, 4,
		0, 0, 0, 16, 0, 0, 0, 64, 0, 0, 0, 128,
		0, 0, 0, 0, 0, 0, 0, 7,
		1, 0, 1}, 0, 0, 0, 0)
	binary.BigEndian.PutUint32(want[59:], crc32.Checksum(want[:59], crc32.MakeTable(crc32.Castagnoli)))
	want = append(want, make([]byte, 512-len(want))...)
	if b := encode(t, x); !bytes.Equal(b, want) {
		t.Errorf("EncodeSuper: %x, want %x", b, want)
	}
	for _, bad := range []struct {
		x api.Super
		e api.Errno
	}{
		{api.Super{}, api.ErrShape},
		{api.Super{Root: -1, Shape: with(func(s *api.Shape) { s.Pack = 1 })}, api.ErrShape},
		{api.Super{Root: 1, Shape: shape()}, api.ErrSuper},
		{api.Super{Root: 7, Shape: shape()}, api.ErrSuper},
		{api.Super{Root: 32, Shape: shape()}, api.ErrSuper},
		{api.Super{Root: -1, Shape: shape()}, api.ErrSuper},
		{api.Super{Root: 1<<32 + 9, Shape: shape()}, api.ErrSuper},
	} {
		if b, e := layout.EncodeSuper(bad.x); e != bad.e || len(b) != 0 {
			t.Error("EncodeSuper", bad.x, e, bad.e)
		}
	}
}

// TestThereAndBack: P4.2, P4.4: DecodeSuper of EncodeSuper is the superblock, and EncodeSuper of what DecodeSuper tells is the bytes.
func TestThereAndBack(t *testing.T) {
	r := rand.New(rand.NewSource(4))
	for range 2000 {
		x := someSuper(r)
		b := encode(t, x)
		if !bytes.Equal(b, plainSuper(x)) || len(b) != x.Shape.Sector {
			t.Fatal("EncodeSuper", x)
		}
		y, e := layout.DecodeSuper(b)
		if e != api.OK || y != x {
			t.Fatal("DecodeSuper", x, y, e)
		}
		y, e = layout.DecodeSuper(plainSuper(x))
		if e != api.OK || !bytes.Equal(encode(t, y), b) {
			t.Fatal("EncodeSuper of DecodeSuper", x, y, e)
		}
	}
}

// refuse holds that bytes are no superblock's.
func refuse(t *testing.T, what string, b []byte) {
	t.Helper()
	if x, e := layout.DecodeSuper(b); e != api.ErrSuper || x != (api.Super{}) {
		t.Error("DecodeSuper of", what, x, e)
	}
}

// TestDecodeTurned: P4.2: of bytes with one bit turned, wherever, there is no superblock; nor of fewer or more bytes.
func TestDecodeTurned(t *testing.T) {
	b := encode(t, api.Super{Generation: 5, Root: 9, Shape: shape()})
	for i := range 8 * len(b) {
		turned := slices.Clone(b)
		turned[i/8] ^= 1 << (i % 8)
		refuse(t, "a turned bit", turned)
	}
	for n := range len(b) {
		refuse(t, "fewer bytes", b[:n])
	}
	refuse(t, "a byte more", append(slices.Clone(b), 0))
	refuse(t, "a sector more", append(slices.Clone(b), make([]byte, 512)...))
	refuse(t, "it twice", append(slices.Clone(b), b...))
	refuse(t, "nothing", nil)
	refuse(t, "zeros", make([]byte, 512))
	refuse(t, "many zeros", make([]byte, 1<<20))
}

// TestDecodeOfAnotherForm: P4.2: frames that are whole and yet no superblock's.
func TestDecodeOfAnotherForm(t *testing.T) {
	x := api.Super{Generation: 5, Root: 9, Shape: shape()}
	if y, e := layout.DecodeSuper(framed('S', body(x, 1), 512)); e != api.OK || y != x {
		t.Fatal("the right form", y, e)
	}
	for kind := range 256 {
		if kind != 83 {
			refuse(t, "another kind", framed(byte(kind), body(x, 1), 512))
		}
	}
	for dedup := 2; dedup < 256; dedup++ {
		refuse(t, "a Dedup that is neither 0 nor 1", framed('S', body(x, byte(dedup)), 512))
	}
	whole := body(x, 1)
	for n := range len(whole) {
		refuse(t, "a short body", framed('S', whole[:n], 512))
	}
	refuse(t, "a long body", framed('S', append(body(x, 1), 0), 512))
	refuse(t, "a longer body", framed('S', append(body(x, 1), 1, 2, 3, 4, 5, 6, 7, 8), 512))
	for _, size := range []int{63, 256, 511, 513, 1024, 2048, 4096} {
		refuse(t, "another size than the Shape's", framed('S', body(x, 1), size))
	}
	for i := 63; i < 512; i++ {
		b := framed('S', body(x, 1), 512)
		b[i] = 1
		refuse(t, "something behind the frame", b)
	}
}

// TestDecodeOfWhatMayNotBe: P4.2: frames of superblocks that may not be, also where only the shape is wrong.
func TestDecodeOfWhatMayNotBe(t *testing.T) {
	s := shape()
	for _, root := range []int{1, 2, 7, 32, 33, -1, 1 << 31} {
		refuse(t, "a root that is no data sector", framed('S', body(api.Super{Root: root, Shape: s}, 0), 512))
	}
	for _, change := range []func(s *api.Shape){
		func(s *api.Shape) { s.Sectors = 15 },
		func(s *api.Shape) { s.Sectors = 4097 },
		func(s *api.Shape) { s.Journal = 1 },
		func(s *api.Shape) { s.Journal = 9 },
		func(s *api.Shape) { s.Pack = 1 },
		func(s *api.Shape) { s.Pack = 65 },
		func(s *api.Shape) { s.Pack = -1 },
		func(s *api.Shape) { s.Cut.Min = 0 },
		func(s *api.Shape) { s.Cut.Min = 65 },
		func(s *api.Shape) { s.Cut.Normal = 63 },
		func(s *api.Shape) { s.Cut.Max = 63 },
		func(s *api.Shape) { s.Cut.Max = 513 },
		func(s *api.Shape) { s.Bits = 257 },
		func(s *api.Shape) { s.Bits = 65535 },
	} {
		refuse(t, "a shape that may not be", framed('S', body(api.Super{Shape: with(change)}, 1), 512))
	}
	for _, size := range []int{0, 1, 256, 513, 8192} {
		x := api.Super{Shape: with(func(s *api.Shape) { s.Sector = size })}
		refuse(t, "a sector that may not be", framed('S', body(x, 1), max(size, 63)))
	}
}

// TestDecodeNoise: P4.2 with R1: any bytes are told something.
func TestDecodeNoise(t *testing.T) {
	r := rand.New(rand.NewSource(9))
	for range 3000 {
		b := make([]byte, r.Intn(600))
		r.Read(b)
		refuse(t, "noise", b)
		refuse(t, "a frame of noise", framed('S', b, len(b)+12))
	}
}

// TestSlot: P4.2: the lowest bit of a generation.
func TestSlot(t *testing.T) {
	for g, want := range map[uint64]int{0: 0, 1: 1, 2: 0, 3: 1, 1 << 63: 0, 1<<63 + 1: 1, math.MaxUint64: 1, math.MaxUint64 - 1: 0} {
		if slot := layout.Slot(g); slot != want {
			t.Error("Slot", g, slot)
		}
	}
}

// TestNext: P4.3: the generation behind a superblock's, and its slot.
func TestNext(t *testing.T) {
	for _, g := range []uint64{0, 1, 2, 255, 1<<32 - 1, 1 << 63, math.MaxUint64 - 2, math.MaxUint64 - 1} {
		n, slot, e := layout.Next(api.Super{Generation: g, Root: -5})
		if n != g+1 || slot != int((g+1)%2) || e != api.OK {
			t.Error("Next", g, n, slot, e)
		}
	}
	if n, slot, e := layout.Next(api.Super{Generation: math.MaxUint64, Shape: shape()}); n != 0 || slot != 0 || e != api.ErrFull {
		t.Error("Next of the last one", n, slot, e)
	}
}

// TestNothingIsShared: P4.2, P4.3 with R3: what is handed in is not changed, and bytes that are answered are new ones.
func TestNothingIsShared(t *testing.T) {
	x := api.Super{Generation: 4, Root: 12, Shape: shape()}
	a := encode(t, x)
	clear(encode(t, x))
	whole := slices.Clone(a)
	layout.DecodeSuper(a)
	layout.Choose(512, a, a)
	if !bytes.Equal(a, whole) || !bytes.Equal(encode(t, x), whole) {
		t.Error("bytes were changed")
	}
}
