package codec

import "dedup/api"

// What a frame has beside its body.
const (
	frameMark = "DF"
	headSize  = 8
	sumSize   = 4
)

// Frame is a body with its check sum.
func Frame(kind uint8, body string) (string, api.Errno) {
	if len(body) > api.MaxFrame {
		return "", api.ErrLong
	}
	w := NewWriter(headSize + len(body) + sumSize)
	w.Raw(frameMark)
	w.U8(kind)
	w.U8(0)
	w.U32(uint32(len(body)))
	w.Raw(body)
	summed, _ := w.Done()
	w.U32(Crc(summed))
	return w.Done()
}

// Unframe is the frame with which a text begins.
func Unframe(s string) (kind uint8, body string, size int, e api.Errno) {
	if len(s) < headSize {
		return 0, "", 0, api.ErrShort
	}
	r := NewReader(s)
	mark := r.take(len(frameMark))
	kind = r.U8()
	zero := r.U8()
	length := r.U32()
	if mark != frameMark || zero != 0 || length > api.MaxFrame {
		return 0, "", 0, api.ErrForm
	}
	summed := headSize + int(length)
	body = r.Raw(int(length))
	sum := r.U32()
	if e = r.Err(); e != api.OK {
		return 0, "", 0, e
	}
	if sum != Crc(s[:summed]) {
		return 0, "", 0, api.ErrSum
	}
	return kind, body, summed + sumSize, api.OK
}
