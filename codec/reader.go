package codec

import (
	"strings"

	"dedup/api"
)

// Reader tells numbers and texts one behind the other.
type Reader struct {
	rest  string
	fault api.Errno
}

// NewReader begins at a text's beginning.
func NewReader(s string) *Reader {
	return &Reader{rest: s}
}

// fail keeps the first fault; nothing is left behind it.
func (r *Reader) fail(e api.Errno) {
	if r == nil || r.fault != api.OK {
		return
	}
	r.fault = e
	r.rest = ""
}

// take is the next n bytes, still a piece of what is read.
func (r *Reader) take(n int) string {
	if r == nil || r.fault != api.OK {
		return ""
	}
	if n > len(r.rest) {
		r.fail(api.ErrShort)
		return ""
	}
	s := r.rest[:n]
	r.rest = r.rest[n:]
	return s
}

// nextNumber is the next number of any width, its highest byte first.
func nextNumber[N number](r *Reader) N {
	s := r.take(width[N]())
	var n uint64
	for i := range len(s) {
		n = n<<8 | uint64(s[i])
	}
	return N(n)
}

// U8 is the next number.
func (r *Reader) U8() uint8 { return nextNumber[uint8](r) }

// U16 is the next number.
func (r *Reader) U16() uint16 { return nextNumber[uint16](r) }

// U32 is the next number.
func (r *Reader) U32() uint32 { return nextNumber[uint32](r) }

// U64 is the next number.
func (r *Reader) U64() uint64 { return nextNumber[uint64](r) }

// Varint is the next number in its shortest form.
func (r *Reader) Varint() uint64 {
	if r == nil || r.fault != api.OK {
		return 0
	}
	n, size, e := firstVarint(r.rest)
	if e != api.OK {
		r.fail(e)
		return 0
	}
	r.take(size)
	return n
}

// firstVarint is the varint with which a text begins, and how many bytes it has.
func firstVarint(s string) (n uint64, size int, e api.Errno) {
	for i := range len(s) {
		b := s[i]
		if i == maxVarint-1 && b != 1 {
			return 0, 0, api.ErrForm // the other 63 bits are told: there is one more, and it is set
		}
		n |= uint64(b&0x7f) << (7 * i)
		if b >= 0x80 {
			continue
		}
		if b == 0 && i > 0 {
			return 0, 0, api.ErrForm
		}
		return n, i + 1, api.OK
	}
	return 0, 0, api.ErrShort
}

// Text is the next text.
func (r *Reader) Text() string {
	n := r.Varint()
	if n > uint64(r.Left()) {
		r.fail(api.ErrShort)
		return ""
	}
	return r.Raw(int(n))
}

// Raw is the next n bytes, which share nothing with what is read.
func (r *Reader) Raw(n int) string {
	if n < 0 {
		r.fail(api.ErrArg)
		return ""
	}
	return strings.Clone(r.take(n))
}

// Left is how many bytes are left.
func (r *Reader) Left() int {
	if r == nil {
		return 0
	}
	return len(r.rest)
}

// Err is the first fault.
func (r *Reader) Err() api.Errno {
	if r == nil {
		return api.ErrClosed
	}
	return r.fault
}

// Done is the first fault, or that something is left.
func (r *Reader) Done() api.Errno {
	if e := r.Err(); e != api.OK {
		return e
	}
	if r.Left() > 0 {
		return api.ErrRest
	}
	return api.OK
}
