package cut

import (
	"math/bits"

	"dedup/api"
)

// hashBits is how many bits a piece's hash has.
const hashBits = 64

// piece is one as far as its bytes are known.
type piece struct {
	length int
	hash   uint64 // of those bytes from Min on
}

// grow lets bytes stand behind the piece's, up to its cut: how many of them are its own, and whether the cut is sure, whatever may come behind.
func (p *piece) grow(c api.Cut, b []byte) (int, bool) {
	for i, x := range b {
		if p.length == c.Max || p.cutAhead(c, x) {
			return i, true
		}
		p.length++
	}
	return len(b), p.length == c.Max
}

// cutAhead takes the byte behind the piece's into the hash, and tells whether the cut is ahead of it.
func (p *piece) cutAhead(c api.Cut, x byte) bool {
	if p.length < c.Min {
		return false
	}
	p.hash = 2*p.hash + gear(c.Seed, x)
	return p.hash>>(hashBits-zeros(c, p.length)) == 0
}

// zeros is how many of the highest bits of a hash are 0 where the cut is ahead of byte i.
func zeros(c api.Cut, i int) int {
	k := bits.TrailingZeros(uint(c.Normal))
	if i < c.Normal {
		return k + 1
	}
	return k - 1
}

// gear is that of a byte.
func gear(seed uint64, b byte) uint64 {
	x := seed + uint64(b)
	x = (x ^ x>>30) * 0xBF58476D1CE4E5B9
	x = (x ^ x>>27) * 0x94D049BB133111EB
	return x ^ x>>31
}
