package codec_test

import (
	"fmt"
	"math"
	"math/rand"
	"strings"
	"testing"

	"dedup/api"
	"dedup/codec"
)

// read is a read that tells nothing, if it tells what it should.
type read struct {
	name string
	call func(r *codec.Reader) bool
}

// emptyReads is one of each kind that must tell 0 or no bytes.
func emptyReads() []read {
	return []read{
		{"U8", func(r *codec.Reader) bool { return r.U8() == 0 }},
		{"U16", func(r *codec.Reader) bool { return r.U16() == 0 }},
		{"U32", func(r *codec.Reader) bool { return r.U32() == 0 }},
		{"U64", func(r *codec.Reader) bool { return r.U64() == 0 }},
		{"Varint", func(r *codec.Reader) bool { return r.Varint() == 0 }},
		{"Text", func(r *codec.Reader) bool { return r.Text() == "" }},
		{"Raw(1)", func(r *codec.Reader) bool { return r.Raw(1) == "" }},
		{"Raw(0)", func(r *codec.Reader) bool { return r.Raw(0) == "" }},
		{"Raw(-1)", func(r *codec.Reader) bool { return r.Raw(-1) == "" }},
		{"Raw(max)", func(r *codec.Reader) bool { return r.Raw(math.MaxInt) == "" }},
		{"Raw(min)", func(r *codec.Reader) bool { return r.Raw(math.MinInt) == "" }},
	}
}

// expectFault tells whether a reader has this fault, and keeps it whatever is asked.
func expectFault(t *testing.T, name string, r *codec.Reader, want api.Errno) {
	t.Helper()
	if r.Err() != want || r.Done() != want || r.Left() != 0 {
		t.Errorf("%s: Err %d, Done %d, Left %d; want %d", name, r.Err(), r.Done(), r.Left(), want)
	}
	for _, c := range emptyReads() {
		if !c.call(r) || r.Err() != want || r.Done() != want || r.Left() != 0 {
			t.Errorf("%s, then %s: Err %d, Done %d, Left %d; want %d", name, c.name, r.Err(), r.Done(), r.Left(), want)
		}
	}
}

// TestReaderNumbers: P2.3, the highest byte first, and on behind it.
func TestReaderNumbers(t *testing.T) {
	r := codec.NewReader("\x81\x82\x83\x84\x85\x86\x87\x88\x89\x8a\x8b\x8c\x8d\x8e\x8fz")
	if n := r.U8(); n != 0x81 || r.Left() != 15 {
		t.Errorf("U8: %x, Left %d", n, r.Left())
	}
	if n := r.U16(); n != 0x8283 || r.Left() != 13 {
		t.Errorf("U16: %x, Left %d", n, r.Left())
	}
	if n := r.U32(); n != 0x84858687 || r.Left() != 9 {
		t.Errorf("U32: %x, Left %d", n, r.Left())
	}
	if n := r.U64(); n != 0x88898a8b8c8d8e8f || r.Left() != 1 {
		t.Errorf("U64: %x, Left %d", n, r.Left())
	}
	if r.Err() != api.OK || r.Done() != api.ErrRest || r.Err() != api.OK || r.Left() != 1 {
		t.Errorf("Err %d, Done %d, Left %d", r.Err(), r.Done(), r.Left())
	}
	if s := r.Raw(1); s != "z" || r.Left() != 0 || r.Err() != api.OK || r.Done() != api.OK {
		t.Errorf("Raw: %q, Left %d, Done %d", s, r.Left(), r.Done())
	}
}

// TestReaderShort: P2.3, s ends ahead of what is asked, by one byte and by all.
func TestReaderShort(t *testing.T) {
	cases := []struct {
		name string
		need int
		call func(r *codec.Reader) bool
	}{
		{"U8", 1, func(r *codec.Reader) bool { return r.U8() == 0 }},
		{"U16", 2, func(r *codec.Reader) bool { return r.U16() == 0 }},
		{"U32", 4, func(r *codec.Reader) bool { return r.U32() == 0 }},
		{"U64", 8, func(r *codec.Reader) bool { return r.U64() == 0 }},
		{"Raw(5)", 5, func(r *codec.Reader) bool { return r.Raw(5) == "" }},
	}
	for _, c := range cases {
		for n := range c.need {
			r := codec.NewReader(strings.Repeat("\x01", n))
			if !c.call(r) {
				t.Errorf("%s of %d bytes tells something", c.name, n)
			}
			expectFault(t, c.name, r, api.ErrShort)
		}
		r := codec.NewReader(strings.Repeat("\x01", c.need))
		if c.call(r) || r.Done() != api.OK {
			t.Errorf("%s of just enough bytes: %d", c.name, r.Done())
		}
	}
}

// TestReaderVarint: P2.3, texts that begin with a varint, and what is left.
func TestReaderVarint(t *testing.T) {
	nine := strings.Repeat("\xff", 9)
	cases := []struct {
		text string
		want uint64
		left int
	}{
		{"\x00", 0, 0},
		{"\x00\x00", 0, 1},
		{"\x7f\x80", 127, 1},
		{"\x80\x01", 128, 0},
		{"\xac\x02x", 300, 1},
		{"\xff\xff\xff\xff\xff\xff\xff\xff\x7f", math.MaxInt64, 0},
		{nine + "\x01", math.MaxUint64, 0},
		{strings.Repeat("\x80", 9) + "\x01\xff\xff", 1 << 63, 2},
	}
	for _, c := range cases {
		r := codec.NewReader(c.text)
		if n := r.Varint(); n != c.want || r.Err() != api.OK || r.Left() != c.left {
			t.Errorf("Varint of %q: %d, error %d, Left %d", c.text, n, r.Err(), r.Left())
		}
	}
}

// TestReaderVarintFaults: P2.3, what ends too early, and what is no varint however it goes on.
func TestReaderVarintFaults(t *testing.T) {
	nine := strings.Repeat("\x80", 9)
	cases := []struct {
		text string
		want api.Errno
	}{
		{"", api.ErrShort},
		{"\x80", api.ErrShort},
		{"\xff\xff\xff", api.ErrShort},
		{nine, api.ErrShort},
		{strings.Repeat("\xff", 9), api.ErrShort},
		{"\x80\x00", api.ErrForm},
		{"\x80\x00\x01", api.ErrForm},
		{"\xff\xff\x00", api.ErrForm},
		{nine + "\x00", api.ErrForm},
		{nine + "\x02", api.ErrForm},
		{nine + "\x7f", api.ErrForm},
		{nine + "\x80", api.ErrForm},
		{nine + "\x81", api.ErrForm},
		{nine + "\x81\x00", api.ErrForm},
		{nine + "\xff\x01", api.ErrForm},
		{strings.Repeat("\x80", 30), api.ErrForm},
	}
	for _, c := range cases {
		for name, call := range map[string]func(r *codec.Reader) bool{
			"Varint": func(r *codec.Reader) bool { return r.Varint() == 0 },
			"Text":   func(r *codec.Reader) bool { return r.Text() == "" },
		} {
			r := codec.NewReader("a" + c.text)
			r.U8()
			if !call(r) {
				t.Errorf("%s of %q tells something", name, c.text)
			}
			expectFault(t, fmt.Sprintf("%s of %q", name, c.text), r, c.want)
		}
	}
}

// TestReaderText: P2.3, its bytes, of any kind, and those that are too few.
func TestReaderText(t *testing.T) {
	r := codec.NewReader("\x00\x03a\x00\xffrest")
	if s := r.Text(); s != "" || r.Left() != 8 {
		t.Errorf("an empty Text: %q, Left %d", s, r.Left())
	}
	if s := r.Text(); s != "a\x00\xff" || r.Left() != 4 || r.Err() != api.OK {
		t.Errorf("Text: %q, Left %d", s, r.Left())
	}
	most := strings.Repeat("\xff", 9) + "\x01"
	for _, s := range []string{"\x01", "\x03ab", "\xac\x02" + strings.Repeat("x", 299), most, most + "abc", strings.Repeat("\x80", 9) + "\x01abc"} {
		r := codec.NewReader(s)
		if got := r.Text(); got != "" {
			t.Errorf("Text of %q: %q", s, got)
		}
		expectFault(t, "Text of too few bytes", r, api.ErrShort)
	}
}

// TestReaderRaw: P2.3, of no bytes, of all, of too many and of fewer than none.
func TestReaderRaw(t *testing.T) {
	r := codec.NewReader("abcd")
	if s := r.Raw(0); s != "" || r.Left() != 4 {
		t.Errorf("Raw(0): %q, Left %d", s, r.Left())
	}
	if s := r.Raw(3) + r.Raw(1); s != "abcd" || r.Done() != api.OK {
		t.Errorf("Raw: %q, Done %d", s, r.Done())
	}
	if s := r.Raw(0); s != "" || r.Done() != api.OK {
		t.Errorf("Raw(0) at the end: %q, Done %d", s, r.Done())
	}
	for _, n := range []int{-1, -7, math.MinInt} {
		r := codec.NewReader("abcd")
		if s := r.Raw(n); s != "" {
			t.Errorf("Raw(%d): %q", n, s)
		}
		expectFault(t, "Raw of fewer than none", r, api.ErrArg)
	}
	for _, n := range []int{5, math.MaxInt} {
		r := codec.NewReader("abcd")
		if s := r.Raw(n); s != "" {
			t.Errorf("Raw(%d): %q", n, s)
		}
		expectFault(t, "Raw of too many", r, api.ErrShort)
	}
}

// TestReaderFirstFault: P2.3, the first fault stays, whichever comes behind it.
func TestReaderFirstFault(t *testing.T) {
	r := codec.NewReader("\x80\x00")
	r.Varint()
	r.Raw(-1)
	r.U64()
	expectFault(t, "ErrForm first", r, api.ErrForm)
	r = codec.NewReader("\x80\x00")
	r.Raw(-1)
	r.Varint()
	expectFault(t, "ErrArg first", r, api.ErrArg)
	r = codec.NewReader("\x80\x00")
	r.U32()
	r.Varint()
	expectFault(t, "ErrShort first", r, api.ErrShort)
}

// TestReaderNil: P2.6.
func TestReaderNil(t *testing.T) {
	var r *codec.Reader
	expectFault(t, "a nil Reader", r, api.ErrClosed)
}

// TestThereAndBack: P2.7, what is written, read in the same order, is told, and nothing is left.
func TestThereAndBack(t *testing.T) {
	dice := rand.New(rand.NewSource(7))
	for round := range 300 {
		w := codec.NewWriter(1 << 20)
		var back []read
		for range dice.Intn(40) {
			n := dice.Uint64() >> dice.Intn(64)
			s := noise(dice.Intn(300), int64(n))
			switch dice.Intn(7) {
			case 0:
				w.U8(uint8(n))
				back = append(back, read{"U8", func(r *codec.Reader) bool { return r.U8() == uint8(n) }})
			case 1:
				w.U16(uint16(n))
				back = append(back, read{"U16", func(r *codec.Reader) bool { return r.U16() == uint16(n) }})
			case 2:
				w.U32(uint32(n))
				back = append(back, read{"U32", func(r *codec.Reader) bool { return r.U32() == uint32(n) }})
			case 3:
				w.U64(n)
				back = append(back, read{"U64", func(r *codec.Reader) bool { return r.U64() == n }})
			case 4:
				w.Varint(n)
				back = append(back, read{"Varint", func(r *codec.Reader) bool { return r.Varint() == n }})
			case 5:
				w.Text(s)
				back = append(back, read{"Text", func(r *codec.Reader) bool { return r.Text() == s }})
			case 6:
				w.Raw(s)
				back = append(back, read{"Raw", func(r *codec.Reader) bool { return r.Raw(len(s)) == s }})
			}
		}
		text, e := w.Done()
		if e != api.OK {
			t.Fatalf("round %d: error %d", round, e)
		}
		r := codec.NewReader(text)
		for i, c := range back {
			if !c.call(r) {
				t.Fatalf("round %d, read %d: %s tells something else", round, i, c.name)
			}
		}
		if r.Done() != api.OK {
			t.Fatalf("round %d: Done %d", round, r.Done())
		}
	}
}

// varintOf is a number's varint.
func varintOf(n uint64) string {
	w := codec.NewWriter(10)
	w.Varint(n)
	s, _ := w.Done()
	return s
}

// TestVarintOneForm: P2.7, of all texts of up to three bytes, those that are read as a varint are just what is written of their number.
func TestVarintOneForm(t *testing.T) {
	for code := range 1<<24 + 1<<16 + 1<<8 {
		var s string
		switch {
		case code < 1<<8:
			s = string([]byte{byte(code)})
		case code < 1<<8+1<<16:
			c := code - 1<<8
			s = string([]byte{byte(c >> 8), byte(c)})
		default:
			c := code - 1<<8 - 1<<16
			if c>>8&0x80 == 0 {
				continue // a byte ahead of the last ends it
			}
			s = string([]byte{byte(c >> 16), byte(c >> 8), byte(c)})
		}
		r := codec.NewReader(s)
		n := r.Varint()
		if r.Done() == api.OK && varintOf(n) != s {
			t.Fatalf("%q is read as %d, which is written as %q", s, n, varintOf(n))
		}
	}
}

// TestVarintLength: P2.7, of two numbers the lower one's is not longer.
func TestVarintLength(t *testing.T) {
	last := 0
	for bit := range 64 {
		for _, n := range []uint64{1<<bit - 1, 1 << bit, 1<<bit + 1} {
			size := len(varintOf(n))
			if size < last && n > 2 || size != max(1, (bitsOf(n)+6)/7) {
				t.Errorf("the varint of %d has %d bytes", n, size)
			}
			last = size
		}
	}
}

// bitsOf is how many bits a number has.
func bitsOf(n uint64) int {
	count := 0
	for ; n > 0; n >>= 1 {
		count++
	}
	return count
}
