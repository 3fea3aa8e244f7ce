package codec_test

import (
	"hash/crc32"
	"math/rand"
	"strings"
	"testing"

	"dedup/codec"
)

// slowCrc is the check sum as the document tells it, bit by bit.
func slowCrc(s string) uint32 {
	sum := uint32(0xffffffff)
	for _, b := range []byte(s) {
		sum ^= uint32(b)
		for range 8 {
			out := sum & 1
			sum >>= 1
			if out == 1 {
				sum ^= 0x82f63b78
			}
		}
	}
	return ^sum
}

// noise is n bytes, the same ones for the same seed.
func noise(n int, seed int64) string {
	b := make([]byte, n)
	rand.New(rand.NewSource(seed)).Read(b)
	return string(b)
}

// TestCrcKnown: P2.1, of texts whose check sums are known.
func TestCrcKnown(t *testing.T) {
	known := []struct {
		text string
		sum  uint32
	}{
		{"", 0},
		{"123456789", 0xe3069283},
		{"a", 0xc1d04330},
		{strings.Repeat("\x00", 32), 0x8a9136aa},
		{strings.Repeat("\xff", 32), 0x62a8ab43},
	}
	for _, k := range known {
		if got := codec.Crc(k.text); got != k.sum {
			t.Errorf("Crc(%q): %08x, want %08x", k.text, got, k.sum)
		}
	}
}

// TestCrc: P2.1, of each byte, and of many texts.
func TestCrc(t *testing.T) {
	for b := range 256 {
		s := string([]byte{byte(b)})
		if codec.Crc(s) != slowCrc(s) {
			t.Errorf("Crc(%q): %08x, want %08x", s, codec.Crc(s), slowCrc(s))
		}
	}
	table := crc32.MakeTable(crc32.Castagnoli)
	for n := range 300 {
		s := noise(n, int64(n))
		got := codec.Crc(s)
		if got != slowCrc(s) || got != crc32.Checksum([]byte(s), table) {
			t.Errorf("Crc of %d bytes: %08x, want %08x", n, got, slowCrc(s))
		}
	}
}
