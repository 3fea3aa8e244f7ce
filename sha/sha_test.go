package sha_test

import (
	"bytes"
	"crypto/sha256"
	"encoding/hex"
	"math"
	"strings"
	"testing"

	"dedup/sha"
)

// sample is n bytes of which no two pieces are soon alike.
func sample(n int) []byte {
	b := make([]byte, n)
	x := uint32(n) + 1
	for i := range b {
		x = x*1664525 + 1013904223
		b[i] = byte(x >> 24)
	}
	return b
}

// TestSumKnown: P1.1, of texts whose sums are known.
func TestSumKnown(t *testing.T) {
	known := []struct{ text, sum string }{
		{"", "e3b0c44298fc1c149afbf4c8996fb92427ae41e4649b934ca495991b7852b855"},
		{"abc", "ba7816bf8f01cfea414140de5dae2223b00361a396177a9cb410ff61f20015ad"},
		{"abcdbcdecdefdefgefghfghighijhijkijkljklmklmnlmnomnopnopq", "248d6a61d20638b8e5c026930c3e6039a33ce45964ff2167f6ecedd419db06c1"},
		{strings.Repeat("a", 1000000), "cdc76e5c9914fb9281a1c7e284d73e67f1809a48a497200e046d39ccc7112cd0"},
	}
	for _, k := range known {
		if got := sha.Hex(sha.Sum([]byte(k.text))); got != k.sum {
			t.Errorf("Sum of %d bytes: %s, want %s", len(k.text), got, k.sum)
		}
	}
}

// TestSumLengths: P1.1, of every length about the edges of blocks and padding.
func TestSumLengths(t *testing.T) {
	for n := range 400 {
		b := sample(n)
		if got, want := sha.Sum(b), sha256.Sum256(b); got != want {
			t.Errorf("Sum of %d bytes: %x, want %x", n, got, want)
		}
	}
}

// TestSumLeavesArgument: R3, what is handed in is not changed, nor the room behind it.
func TestSumLeavesArgument(t *testing.T) {
	room := sample(300)
	before := bytes.Clone(room)
	sha.Sum(room[:55])
	h := sha.New()
	h.Write(room[:70])
	h.Sum()
	if !bytes.Equal(room, before) {
		t.Error("the argument, or the room behind it, was changed")
	}
}

// TestHex: P1.1, two small digits a byte, the first byte first.
func TestHex(t *testing.T) {
	var sum [32]byte
	for first := range 256 {
		for i := range sum {
			sum[i] = byte(first + 7*i)
		}
		if got, want := sha.Hex(sum), hex.EncodeToString(sum[:]); got != want {
			t.Fatalf("Hex: %s, want %s", got, want)
		}
	}
}

// TestParse: P1.1 and P1.4, there and back.
func TestParse(t *testing.T) {
	for n := range 300 {
		sum := sha256.Sum256(sample(n))
		text := hex.EncodeToString(sum[:])
		got, ok := sha.Parse(text)
		if !ok || got != sum {
			t.Fatalf("Parse(%s): %x, %v", text, got, ok)
		}
		if sha.Hex(got) != text {
			t.Fatalf("Hex of Parse(%s): %s", text, sha.Hex(got))
		}
	}
}

// TestParseOtherBytes: P1.1 and P1.4, at each place each byte: just the digits are taken, and what is taken is told by Hex again.
func TestParseOtherBytes(t *testing.T) {
	text := []byte(strings.Repeat("5b", 32))
	for place := range text {
		old := text[place]
		for c := range 256 {
			text[place] = byte(c)
			s := string(text)
			want := strings.IndexByte("0123456789abcdef", byte(c)) >= 0
			got, ok := sha.Parse(s)
			if ok != want {
				t.Fatalf("Parse(%q): %v", s, ok)
			}
			if ok && sha.Hex(got) != s {
				t.Fatalf("Hex of Parse(%q): %s", s, sha.Hex(got))
			}
			if !ok && got != [32]byte{} {
				t.Fatalf("Parse(%q): a sum beside false", s)
			}
		}
		text[place] = old
	}
}

// TestParseWrongLength: P1.1, of texts that are no sum's.
func TestParseWrongLength(t *testing.T) {
	for n := range 140 {
		if n == 64 {
			continue
		}
		if got, ok := sha.Parse(strings.Repeat("0", n)); ok || got != [32]byte{} {
			t.Errorf("Parse of %d digits: %x, %v", n, got, ok)
		}
	}
	good := strings.Repeat("ab", 32)
	for _, s := range []string{" " + good, good + "\n", "0x" + good[2:], strings.ToUpper(good), good[:62] + "é"} {
		if got, ok := sha.Parse(s); ok || got != [32]byte{} {
			t.Errorf("Parse(%q): %x, %v", s, got, ok)
		}
	}
}

// firstBits is Bits, bit by bit.
func firstBits(sum [32]byte, n int) [32]byte {
	var out [32]byte
	for i := 0; i < 256 && i < n; i++ {
		out[i/8] |= sum[i/8] & (0x80 >> (i % 8))
	}
	return out
}

// TestBits: P1.1, every number of bits, and those beyond the edges.
func TestBits(t *testing.T) {
	sums := [][32]byte{sha256.Sum256(nil), sha256.Sum256([]byte("abc")), {}}
	sums[2] = [32]byte(bytes.Repeat([]byte{0xff}, 32))
	for _, sum := range sums {
		for n := -20; n < 280; n++ {
			if got, want := sha.Bits(sum, n), firstBits(sum, n); got != want {
				t.Errorf("Bits(%x, %d): %x, want %x", sum, n, got, want)
			}
		}
		if sha.Bits(sum, math.MinInt) != [32]byte{} || sha.Bits(sum, math.MaxInt) != sum {
			t.Error("Bits by the least and the greatest number")
		}
	}
	abc := sha.Hex(sha.Bits(sha.Sum([]byte("abc")), 12))
	if abc != "ba7"+strings.Repeat("0", 61) {
		t.Error("Bits of abc's sum by 12:", abc)
	}
}

// TestBitsOfBits: P1.4, Bits of Bits is Bits by the lesser number.
func TestBitsOfBits(t *testing.T) {
	sum := sha256.Sum256([]byte("bits"))
	for m := -3; m < 262; m++ {
		once := sha.Bits(sum, m)
		for n := -3; n < 262; n++ {
			if sha.Bits(once, n) != sha.Bits(sum, min(m, n)) {
				t.Fatalf("Bits by %d of Bits by %d", n, m)
			}
		}
	}
}
