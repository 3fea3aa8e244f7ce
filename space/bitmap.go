package space

import (
	"math/bits"

	"dedup/api"
)

// wordBits is how many bits a word of a bitmap has.
const wordBits = 64

// bitmap has a bit for each sector that a space may have; as an array it is copied whole.
type bitmap [api.MaxSectors / wordBits]uint64

// set lets the bits from from to end - 1 be 1.
func (b *bitmap) set(from, end int) {
	for i := from; i < end; i++ {
		b[i/wordBits] |= 1 << (i % wordBits)
	}
}

// unset lets the bits from from to end - 1 be 0.
func (b *bitmap) unset(from, end int) {
	for i := from; i < end; i++ {
		b[i/wordBits] &^= 1 << (i % wordBits)
	}
}

// ones is how many bits are 1.
func (b *bitmap) ones() int {
	n := 0
	for _, w := range b {
		n += bits.OnesCount64(w)
	}
	return n
}

// firstSet is the first place from from on, below end, whose bit is 1; end, if there is none.
func (b *bitmap) firstSet(from, end int) int {
	return b.find(from, end, 0)
}

// firstUnset is the first place from from on, below end, whose bit is 0; end, if there is none.
func (b *bitmap) firstUnset(from, end int) int {
	return b.find(from, end, ^uint64(0))
}

// find is firstSet of the bits as they are when each word is turned by turn; word by word, so that a long stretch takes few steps.
func (b *bitmap) find(from, end int, turn uint64) int {
	for i := from; i < end; i += wordBits - i%wordBits {
		rest := (b[i/wordBits] ^ turn) >> (i % wordBits)
		if rest != 0 {
			return min(i+bits.TrailingZeros64(rest), end)
		}
	}
	return end
}

// or is a bitmap whose bits are 1 where one of two has a 1.
func or(a, b bitmap) bitmap {
	for i, w := range b {
		a[i] |= w
	}
	return a
}
