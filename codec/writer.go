package codec

import (
	"math/bits"

	"dedup/api"
)

// Writer puts numbers and texts one behind the other.
type Writer struct {
	most  int
	bytes []byte
	over  bool
}

// NewWriter writes so many bytes at most.
func NewWriter(most int) *Writer {
	return &Writer{most: max(most, 0)}
}

// room tells whether n bytes more may be written; if not, the writer is over.
func (w *Writer) room(n int) bool {
	if w == nil || w.over {
		return false
	}
	if n > w.most-len(w.bytes) {
		w.over = true
		w.bytes = nil
		return false
	}
	return true
}

// putNumber puts a number of any width, its highest byte first.
func putNumber[N number](w *Writer, n N) {
	size := width[N]()
	if !w.room(size) {
		return
	}
	for shift := 8 * (size - 1); shift >= 0; shift -= 8 {
		w.bytes = append(w.bytes, byte(n>>shift))
	}
}

// U8 puts a number.
func (w *Writer) U8(n uint8) { putNumber(w, n) }

// U16 puts a number.
func (w *Writer) U16(n uint16) { putNumber(w, n) }

// U32 puts a number.
func (w *Writer) U32(n uint32) { putNumber(w, n) }

// U64 puts a number.
func (w *Writer) U64(n uint64) { putNumber(w, n) }

// Varint puts a number in its shortest form.
func (w *Writer) Varint(n uint64) {
	if !w.room(varintSize(n)) {
		return
	}
	for n >= 0x80 {
		w.bytes = append(w.bytes, byte(n)|0x80)
		n >>= 7
	}
	w.bytes = append(w.bytes, byte(n))
}

// varintSize is how many groups of 7 bits a number has: 0 has one too.
func varintSize(n uint64) int {
	return (bits.Len64(n|1) + 6) / 7
}

// Text puts a text with its length.
func (w *Writer) Text(s string) {
	w.Varint(uint64(len(s)))
	w.Raw(s)
}

// Raw puts bytes.
func (w *Writer) Raw(s string) {
	if w.room(len(s)) {
		w.bytes = append(w.bytes, s...)
	}
}

// Len is how many bytes are written.
func (w *Writer) Len() int {
	if w == nil {
		return 0
	}
	return len(w.bytes)
}

// Done is the bytes.
func (w *Writer) Done() (string, api.Errno) {
	if w == nil {
		return "", api.ErrClosed
	}
	if w.over {
		return "", api.ErrLong
	}
	return string(w.bytes), api.OK
}
