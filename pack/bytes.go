package pack

import (
	"iter"
	"slices"

	"dedup/api"
	"dedup/codec"
)

// What a container has beside its chunks.
const (
	headMark = "DPAK"
	footMark = "DFOT"
	edgeSize = 16 // of the head, and of the footer
	slotHead = 8  // a chunk's length and the check sum, ahead of it
)

// edge is a head's or a footer's bytes: its letters, two numbers, the check sum of these.
func edge(letters string, first, second uint32) string {
	w := codec.NewWriter(edgeSize)
	w.Raw(letters)
	w.U32(first)
	w.U32(second)
	summed, _ := w.Done()
	w.U32(codec.Crc(summed))
	s, _ := w.Done()
	return s
}

// headOf is the head of a container.
func headOf(id uint32, sectors int) string {
	return edge(headMark, id, uint32(sectors))
}

// footOf is the footer behind these slots; without a slot the head's end is where the last one ends.
func footOf(l []api.Slot) string {
	return edge(footMark, uint32(len(l)), uint32(endOf(l)))
}

// endOf is where the last slot ends.
func endOf(l []api.Slot) int {
	if len(l) == 0 {
		return edgeSize
	}
	last := l[len(l)-1]
	return last.Offset + last.Length
}

// slotHeadOf is the bytes ahead of a chunk.
func slotHeadOf(chunk []byte) string {
	w := codec.NewWriter(slotHead)
	w.U32(uint32(len(chunk)))
	length, _ := w.Done()
	w.U32(codec.Crc(length + string(chunk)))
	s, _ := w.Done()
	return s
}

// slotAt is the slot that begins at a place of any bytes, and whether there is one.
func slotAt(b []byte, at int) (api.Slot, bool) {
	if at < 0 || at > len(b)-slotHead {
		return api.Slot{}, false
	}
	from := at + slotHead
	head := string(b[at:from])
	length := uint64(codec.NewReader(head).U32())
	if length < 1 || length > uint64(len(b)-from) {
		return api.Slot{}, false
	}
	if head != slotHeadOf(b[from:from+int(length)]) {
		return api.Slot{}, false
	}
	return api.Slot{Offset: from, Length: int(length)}, true
}

// slotsOf goes over the slots of any bytes that are a head and a room.
func slotsOf(b []byte) iter.Seq[api.Slot] {
	return func(yield func(api.Slot) bool) {
		for at := edgeSize; ; {
			s, ok := slotAt(b, at)
			if !ok || !yield(s) {
				return
			}
			at = s.Offset + s.Length
		}
	}
}

// Scan is what any bytes are as a container.
func Scan(size, sectors int, image []byte) (id uint32, l []api.Slot, sealed bool, e api.Errno) {
	if !mayBe(size, sectors) || len(image) != size*sectors {
		return 0, nil, false, api.ErrArg
	}
	head := string(image[:edgeSize])
	id = codec.NewReader(head[len(headMark):]).U32()
	if head != headOf(id, sectors) {
		return 0, nil, false, api.ErrPack
	}
	footAt := len(image) - edgeSize
	l = slices.Collect(slotsOf(image[:footAt]))
	return id, l, string(image[footAt:]) == footOf(l), api.OK
}

// Chunk is the one that lies in any bytes as a slot says.
func Chunk(b []byte, s api.Slot) ([]byte, api.Errno) {
	if s.Offset < slotHead {
		return nil, api.ErrPack
	}
	if found, ok := slotAt(b, s.Offset-slotHead); !ok || found != s {
		return nil, api.ErrPack
	}
	return slices.Clone(b[s.Offset : s.Offset+s.Length]), api.OK
}
