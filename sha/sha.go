// Package sha is layer 1: SHA-256. See shared/doc/01-sha.md.
package sha

// hexDigits are a sum's digits as a text.
const hexDigits = "0123456789abcdef"

// Sum is the sum of bytes.
func Sum(b []byte) [32]byte {
	h := New()
	h.Write(b)
	return h.Sum()
}

// Hex is a sum as 64 digits.
func Hex(sum [32]byte) string {
	text := make([]byte, 0, 2*len(sum))
	for _, b := range sum {
		text = append(text, hexDigits[b>>4], hexDigits[b&15])
	}
	return string(text)
}

// Parse is the sum whose digits a text is.
func Parse(s string) ([32]byte, bool) {
	var sum [32]byte
	if len(s) != 2*len(sum) {
		return [32]byte{}, false
	}
	for i := range sum {
		high, highOk := digit(s[2*i])
		low, lowOk := digit(s[2*i+1])
		if !highOk || !lowOk {
			return [32]byte{}, false
		}
		sum[i] = high<<4 | low
	}
	return sum, true
}

// digit takes the small letters alone: a sum has just one text.
func digit(c byte) (byte, bool) {
	switch {
	case '0' <= c && c <= '9':
		return c - '0', true
	case 'a' <= c && c <= 'f':
		return c - 'a' + 10, true
	}
	return 0, false
}

// Bits is a sum of which the first n bits alone stay.
func Bits(sum [32]byte, n int) [32]byte {
	n = min(max(n, 0), 8*len(sum))
	for i := range sum {
		stay := min(max(n-8*i, 0), 8)
		sum[i] &= byte(0xff) << (8 - stay)
	}
	return sum
}
