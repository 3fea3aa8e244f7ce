package codec_test

import (
	"math"
	"strings"
	"testing"

	"dedup/api"
	"dedup/codec"
)

// write is one write to a writer, and the bytes that it puts.
type write struct {
	name  string
	call  func(w *codec.Writer)
	bytes string
}

// writes is one of each kind, and their edges.
func writes() []write {
	long := strings.Repeat("x", 300)
	return []write{
		{"U8(0)", func(w *codec.Writer) { w.U8(0) }, "\x00"},
		{"U8(max)", func(w *codec.Writer) { w.U8(255) }, "\xff"},
		{"U16", func(w *codec.Writer) { w.U16(0x0102) }, "\x01\x02"},
		{"U16(max)", func(w *codec.Writer) { w.U16(math.MaxUint16) }, "\xff\xff"},
		{"U32", func(w *codec.Writer) { w.U32(0x01020384) }, "\x01\x02\x03\x84"},
		{"U32(max)", func(w *codec.Writer) { w.U32(math.MaxUint32) }, "\xff\xff\xff\xff"},
		{"U64", func(w *codec.Writer) { w.U64(0x8102030405060788) }, "\x81\x02\x03\x04\x05\x06\x07\x88"},
		{"U64(max)", func(w *codec.Writer) { w.U64(math.MaxUint64) }, strings.Repeat("\xff", 8)},
		{"Varint(0)", func(w *codec.Writer) { w.Varint(0) }, "\x00"},
		{"Varint(1)", func(w *codec.Writer) { w.Varint(1) }, "\x01"},
		{"Varint(127)", func(w *codec.Writer) { w.Varint(127) }, "\x7f"},
		{"Varint(128)", func(w *codec.Writer) { w.Varint(128) }, "\x80\x01"},
		{"Varint(300)", func(w *codec.Writer) { w.Varint(300) }, "\xac\x02"},
		{"Varint(2^14)", func(w *codec.Writer) { w.Varint(1 << 14) }, "\x80\x80\x01"},
		{"Varint(2^63-1)", func(w *codec.Writer) { w.Varint(math.MaxInt64) }, strings.Repeat("\xff", 8) + "\x7f"},
		{"Varint(2^63)", func(w *codec.Writer) { w.Varint(1 << 63) }, strings.Repeat("\x80", 9) + "\x01"},
		{"Varint(max)", func(w *codec.Writer) { w.Varint(math.MaxUint64) }, strings.Repeat("\xff", 9) + "\x01"},
		{"Text(\"\")", func(w *codec.Writer) { w.Text("") }, "\x00"},
		{"Text(ab)", func(w *codec.Writer) { w.Text("ab") }, "\x02ab"},
		{"Text(of bytes)", func(w *codec.Writer) { w.Text("\x00\xff\x80") }, "\x03\x00\xff\x80"},
		{"Text(long)", func(w *codec.Writer) { w.Text(long) }, "\xac\x02" + long},
		{"Raw(\"\")", func(w *codec.Writer) { w.Raw("") }, ""},
		{"Raw(ab)", func(w *codec.Writer) { w.Raw("ab") }, "ab"},
		{"Raw(long)", func(w *codec.Writer) { w.Raw(long) }, long},
	}
}

// expect tells whether a writer has these bytes, asked twice.
func expect(t *testing.T, name string, w *codec.Writer, want string) {
	t.Helper()
	for range 2 {
		got, e := w.Done()
		if e != api.OK || got != want || w.Len() != len(want) {
			t.Errorf("%s: %q, error %d, Len %d; want %q", name, got, e, w.Len(), want)
		}
	}
}

// expectOver tells whether a writer is over.
func expectOver(t *testing.T, name string, w *codec.Writer) {
	t.Helper()
	for range 2 {
		if got, e := w.Done(); e != api.ErrLong || got != "" || w.Len() != 0 {
			t.Errorf("%s: %q, error %d, Len %d; it should be over", name, got, e, w.Len())
		}
	}
}

// TestWriterEach: P2.2, each write alone, with just the room that it needs, and with one byte less.
func TestWriterEach(t *testing.T) {
	for _, c := range writes() {
		w := codec.NewWriter(len(c.bytes))
		c.call(w)
		expect(t, c.name, w, c.bytes)
		if c.bytes == "" {
			continue
		}
		w = codec.NewWriter(len(c.bytes) - 1)
		c.call(w)
		expectOver(t, c.name, w)
	}
}

// TestWriterOver: P2.2, a writer that is over stays so, whatever is written, though it would have room.
func TestWriterOver(t *testing.T) {
	for _, c := range writes() {
		w := codec.NewWriter(400)
		w.Raw(strings.Repeat("y", 399))
		w.U16(1)
		expectOver(t, "behind 401 bytes", w)
		c.call(w)
		expectOver(t, c.name, w)
	}
}

// TestWriterBehind: P2.2, bytes stand behind those that are written; Done may be asked between.
func TestWriterBehind(t *testing.T) {
	w := codec.NewWriter(1 << 16)
	want := ""
	expect(t, "a new one", w, want)
	for range 3 {
		for _, c := range writes() {
			c.call(w)
			want += c.bytes
			expect(t, c.name, w, want)
		}
	}
}

// TestWriterLeavesAnswer: R3, what was answered stays as it was.
func TestWriterLeavesAnswer(t *testing.T) {
	w := codec.NewWriter(100)
	w.Raw("abc")
	first, _ := w.Done()
	w.Raw("def")
	if first != "abc" {
		t.Errorf("the first answer became %q", first)
	}
}

// TestWriterNoRoom: P2.2, of room for nothing, or below.
func TestWriterNoRoom(t *testing.T) {
	for _, most := range []int{0, -1, math.MinInt} {
		w := codec.NewWriter(most)
		expect(t, "a new one", w, "")
		w.Raw("")
		expect(t, "nothing written", w, "")
		w.U8(0)
		expectOver(t, "one byte", w)
	}
}

// TestWriterMuchRoom: P2.2, the greatest room is not taken ahead.
func TestWriterMuchRoom(t *testing.T) {
	w := codec.NewWriter(math.MaxInt)
	w.Text("ab")
	expect(t, "much room", w, "\x02ab")
}

// TestWriterNil: P2.6.
func TestWriterNil(t *testing.T) {
	var w *codec.Writer
	for _, c := range writes() {
		c.call(w)
		if s, e := w.Done(); s != "" || e != api.ErrClosed || w.Len() != 0 {
			t.Errorf("a nil Writer behind %s: %q, %d, %d", c.name, s, e, w.Len())
		}
	}
}
