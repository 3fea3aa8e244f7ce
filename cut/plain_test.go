package cut_test

import (
	"math/big"
	"math/rand"

	"dedup/api"
)

// wrap is a number without what is beyond 64 bits.
func wrap(n *big.Int) *big.Int {
	return n.Mod(n, new(big.Int).Lsh(big.NewInt(1), 64))
}

// hex is the number of a text of hexadecimal digits.
func hex(s string) *big.Int {
	n, ok := new(big.Int).SetString(s, 16)
	if !ok {
		panic(s)
	}
	return n
}

// folded is x xor x >> n.
func folded(x *big.Int, n uint) *big.Int {
	return new(big.Int).Xor(x, new(big.Int).Rsh(x, n))
}

// plainGear is the gear of a byte by the chapter's words, in numbers without an end.
func plainGear(seed uint64, b byte) *big.Int {
	x := new(big.Int).SetUint64(seed)
	x = wrap(x.Add(x, big.NewInt(int64(b))))
	x = folded(x, 30)
	x = wrap(x.Mul(x, hex("BF58476D1CE4E5B9")))
	x = folded(x, 27)
	x = wrap(x.Mul(x, hex("94D049BB133111EB")))
	return folded(x, 31)
}

// plain cuts by the chapter's words.
type plain struct {
	shape api.Cut
	gears [256]*big.Int
	k     int
}

func newPlain(c api.Cut) *plain {
	p := &plain{shape: c}
	for b := range p.gears {
		p.gears[b] = plainGear(c.Seed, byte(b))
	}
	for 1<<p.k < c.Normal {
		p.k++
	}
	return p
}

// first is the first cut, and whether it was found: ahead of the bytes' end and of Max.
func (p *plain) first(b []byte) (int, bool) {
	n := len(b)
	if n <= p.shape.Min {
		return n, false
	}
	m := min(n, p.shape.Max)
	h := big.NewInt(0)
	for i := p.shape.Min; i <= m-1; i++ {
		h = wrap(h.Add(h.Lsh(h, 1), p.gears[b[i]]))
		zeros := p.k - 1
		if i < p.shape.Normal {
			zeros = p.k + 1
		}
		if h.BitLen() <= 64-zeros {
			return i, true
		}
	}
	return m, false
}

// lengths is those of all pieces.
func (p *plain) lengths(b []byte) []int {
	var l []int
	for len(b) > 0 {
		n, _ := p.first(b)
		l = append(l, n)
		b = b[n:]
	}
	return l
}

// sure is the lengths of the pieces that are sure when b was written: Max bytes long, or with a cut that was found.
func (p *plain) sure(b []byte) []int {
	var l []int
	for {
		n, found := p.first(b)
		if !found && n < p.shape.Max {
			return l
		}
		l = append(l, n)
		b = b[n:]
	}
}

// someShape is one that may be, by chance, with a Normal of up to 16 times 2^most.
func someShape(r *rand.Rand, most int) api.Cut {
	normal := 16 << r.Intn(most+1)
	c := api.Cut{Min: 1 + r.Intn(normal), Normal: normal, Max: normal + r.Intn(7*normal+1), Seed: r.Uint64()}
	switch r.Intn(8) {
	case 0:
		c.Min = 1
	case 1:
		c.Min = normal
	case 2:
		c.Max = normal
	case 3:
		c.Max = 8 * normal
	case 4:
		c.Min, c.Max = normal, normal
	}
	return c
}

// someBytes is n of them by chance, now and then of few kinds, so that they repeat.
func someBytes(r *rand.Rand, n int) []byte {
	b := make([]byte, n)
	kinds := []int{1, 2, 5, 256, 256, 256}[r.Intn(6)]
	for i := range b {
		b[i] = byte(r.Intn(kinds))
	}
	return b
}
