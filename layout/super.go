package layout

import (
	"math"

	"dedup/api"
	"dedup/codec"
)

// A superblock's frame.
const (
	superKind = 'S'
	bodySize  = 51
)

// CheckSuper tells why a superblock may not be.
func CheckSuper(x api.Super) api.Errno {
	if e := Check(x.Shape); e != api.OK {
		return e
	}
	if x.Root != 0 && Kind(x.Shape, x.Root) != api.AreaData {
		return api.ErrSuper
	}
	return api.OK
}

// EncodeSuper is a superblock's bytes.
func EncodeSuper(x api.Super) ([]byte, api.Errno) {
	if e := CheckSuper(x); e != api.OK {
		return nil, e
	}
	frame, e := codec.Frame(superKind, bodyOf(x))
	if e != api.OK {
		return nil, e
	}
	b := make([]byte, x.Shape.Sector)
	copy(b, frame)
	return b, api.OK
}

// bodyOf is the body of the frame of a superblock that may be.
func bodyOf(x api.Super) string {
	s := x.Shape
	w := codec.NewWriter(bodySize)
	w.U64(x.Generation)
	w.U32(uint32(x.Root))
	w.U32(uint32(s.Sector))
	w.U32(uint32(s.Sectors))
	w.U32(uint32(s.Journal))
	w.U32(uint32(s.Pack))
	w.U32(uint32(s.Cut.Min))
	w.U32(uint32(s.Cut.Normal))
	w.U32(uint32(s.Cut.Max))
	w.U64(s.Cut.Seed)
	w.U16(uint16(s.Bits))
	w.U8(flag(s.Dedup))
	body, _ := w.Done()
	return body
}

// flag is 1 for true.
func flag(set bool) uint8 {
	if set {
		return 1
	}
	return 0
}

// DecodeSuper is the superblock that bytes are.
func DecodeSuper(b []byte) (api.Super, api.Errno) {
	_, body, _, e := codec.Unframe(string(b))
	if e != api.OK {
		return api.Super{}, api.ErrSuper
	}
	x, e := superOf(body)
	if e != api.OK {
		return api.Super{}, api.ErrSuper
	}
	// What is written back tells of all at once: the kind, the flag, what stands behind the frame, how many bytes there are.
	again, e := EncodeSuper(x)
	if e != api.OK || string(again) != string(b) {
		return api.Super{}, api.ErrSuper
	}
	return x, api.OK
}

// superOf is what a body's fields say, whether it may be or not.
func superOf(body string) (api.Super, api.Errno) {
	var x api.Super
	s := &x.Shape
	r := codec.NewReader(body)
	x.Generation = r.U64()
	x.Root = int(r.U32())
	s.Sector = int(r.U32())
	s.Sectors = int(r.U32())
	s.Journal = int(r.U32())
	s.Pack = int(r.U32())
	s.Cut.Min = int(r.U32())
	s.Cut.Normal = int(r.U32())
	s.Cut.Max = int(r.U32())
	s.Cut.Seed = r.U64()
	s.Bits = int(r.U16())
	s.Dedup = r.U8() == 1
	return x, r.Done()
}

// Slot is the sector of a generation's superblock.
func Slot(generation uint64) int {
	return int(generation & 1)
}

// Choose is the superblock that counts, and its slot.
func Choose(size int, a, b []byte) (api.Super, int, api.Errno) {
	var best api.Super
	fault := api.ErrSuper
	for slot, sector := range [][]byte{a, b} {
		x, e := DecodeSuper(sector)
		if e != api.OK || x.Shape.Sector != size || Slot(x.Generation) != slot {
			continue
		}
		if fault != api.OK || x.Generation > best.Generation {
			best, fault = x, api.OK
		}
	}
	return best, Slot(best.Generation), fault
}

// Next is the generation behind a superblock's, and its slot.
func Next(x api.Super) (uint64, int, api.Errno) {
	if x.Generation == math.MaxUint64 {
		return 0, 0, api.ErrFull
	}
	next := x.Generation + 1
	return next, Slot(next), api.OK
}
