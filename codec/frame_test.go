package codec_test

import (
	"encoding/binary"
	"math/rand"
	"strings"
	"testing"

	"dedup/api"
	"dedup/codec"
)

// slowFrame is a frame as the document tells it.
func slowFrame(kind uint8, body string) string {
	b := []byte{'D', 'F', kind, 0}
	b = binary.BigEndian.AppendUint32(b, uint32(len(body)))
	b = append(b, body...)
	return string(binary.BigEndian.AppendUint32(b, slowCrc(string(b))))
}

// TestFrame: P2.5, of every kind, and of bodies from none to the longest.
func TestFrame(t *testing.T) {
	for kind := range 256 {
		if got, e := codec.Frame(uint8(kind), "body"); e != api.OK || got != slowFrame(uint8(kind), "body") {
			t.Errorf("Frame(%d, body): %q, error %d", kind, got, e)
		}
	}
	for _, n := range []int{0, 1, 255, 256, 65536, api.MaxFrame} {
		body := noise(n, 1)
		if got, e := codec.Frame(7, body); e != api.OK || got != slowFrame(7, body) {
			t.Errorf("Frame of %d bytes: %d bytes, error %d", n, len(got), e)
		}
	}
	if got, e := codec.Frame(7, strings.Repeat("x", api.MaxFrame+1)); e != api.ErrLong || got != "" {
		t.Errorf("Frame of a body that is too long: %d bytes, error %d", len(got), e)
	}
}

// TestUnframe: P2.5 and P2.9, whatever stands behind a frame.
func TestUnframe(t *testing.T) {
	for _, n := range []int{0, 1, 4, 500, api.MaxFrame} {
		body := noise(n, 2)
		for _, kind := range []uint8{0, 7, 255} {
			f, _ := codec.Frame(kind, body)
			for _, behind := range []string{"", "x", "DF", f, strings.Repeat("\x00", 50)} {
				k, b, size, e := codec.Unframe(f + behind)
				if k != kind || b != body || size != 12+n || e != api.OK {
					t.Errorf("Unframe of kind %d, %d bytes: %d, %d bytes, size %d, error %d", kind, n, k, len(b), size, e)
				}
			}
		}
	}
}

// expectNoFrame tells whether a text is refused, with this error alone.
func expectNoFrame(t *testing.T, s string, want api.Errno) {
	t.Helper()
	kind, body, size, e := codec.Unframe(s)
	if e != want || kind != 0 || body != "" || size != 0 {
		t.Errorf("Unframe(%.40q): %d, %q, %d, error %d; want %d", s, kind, body, size, e, want)
	}
}

// TestUnframeFaults: P2.5, each fault, and which is told where several apply.
func TestUnframeFaults(t *testing.T) {
	f, _ := codec.Frame(7, "body")
	for n := range len(f) {
		expectNoFrame(t, f[:n], api.ErrShort)
	}
	for n := range 8 {
		expectNoFrame(t, strings.Repeat("x", n), api.ErrShort)
	}
	long := slowFrame(7, strings.Repeat("x", api.MaxFrame+1))
	for _, s := range []string{
		"dF" + f[2:], "Df" + f[2:], "FD" + f[2:],
		f[:3] + "\x01" + f[4:], f[:3] + "\xff" + f[4:],
		"xx\x07\x00\x00\x00\x00\x00",
		"DF\x07\x01\x00\x00\x00\x04",
		"DF\x07\x00\x00\x10\x00\x01",
		"DF\x07\x00\xff\xff\xff\xff",
		long,
	} {
		expectNoFrame(t, s, api.ErrForm)
	}
	expectNoFrame(t, "DF\x07\x00\x00\x10\x00\x00", api.ErrShort)
	expectNoFrame(t, "DF\x07\x00\x00\x00\x00\x05"+f[8:], api.ErrShort)
	expectNoFrame(t, "DF\x07\x00\x00\x00\x00\x03"+f[8:], api.ErrSum)
	expectNoFrame(t, f[:2]+"\x06"+f[3:], api.ErrSum)
	for place := 12; place < 16; place++ {
		expectNoFrame(t, f[:place]+string([]byte{f[place] ^ 1})+f[place+1:], api.ErrSum)
	}
}

// turned is a text of which some bits are turned: those of mask, from a bit on (a byte's lowest first, as the check sum takes them).
func turned(s string, bit int, mask uint32) string {
	b := []byte(s)
	for i := range 32 {
		if mask>>i&1 == 1 {
			b[(bit+i)/8] ^= 1 << ((bit + i) % 8)
		}
	}
	return string(b)
}

// TestTurnedBits: P2.9, up to 32 neighbouring bits of a body, at each place of it.
func TestTurnedBits(t *testing.T) {
	dice := rand.New(rand.NewSource(5))
	body := noise(40, 9)
	f, _ := codec.Frame(3, body)
	for bit := range 8 * len(body) {
		room := min(32, 8*len(body)-bit)
		for span := 1; span <= room; span++ {
			ends := uint32(1) | 1<<(span-1)
			all := ^uint32(0) >> (32 - span)
			for _, mask := range []uint32{ends, all, ends | dice.Uint32()&all, ends | dice.Uint32()&all} {
				expectNoFrame(t, turned(f, 64+bit, mask), api.ErrSum)
			}
		}
	}
}
