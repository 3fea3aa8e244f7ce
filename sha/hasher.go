package sha

// lengthSize is how many bytes the number of bits has at the padding's end.
const lengthSize = 8

// Hasher finds the sum of what is written piece by piece.
type Hasher struct {
	state  [8]uint32
	block  [blockSize]byte // of which the first length % blockSize bytes wait for the others
	length int
}

// New is a Hasher to which nothing was written.
func New() *Hasher {
	return &Hasher{state: firstState()}
}

// Write puts bytes behind those that were written.
func (h *Hasher) Write(b []byte) {
	if h == nil {
		return
	}
	for len(b) > 0 {
		kept := h.length % blockSize
		n := copy(h.block[kept:], b)
		h.length += n
		b = b[n:]
		if kept+n == blockSize {
			h.state = mix(h.state, h.block)
		}
	}
}

// Sum is the sum of all that was written.
func (h *Hasher) Sum() [32]byte {
	if h == nil {
		return [32]byte{}
	}
	last := *h // the padding goes to another one, so that more may be written to this one
	last.Write(padding(h.length))
	var sum [32]byte
	for i, word := range last.state {
		for j := range 4 {
			sum[4*i+j] = byte(word >> (24 - 8*j))
		}
	}
	return sum
}

// padding is what stands behind n bytes, so that there are whole blocks.
func padding(n int) []byte {
	whole := blockSize - (n+lengthSize)%blockSize
	pad := make([]byte, whole+lengthSize)
	pad[0] = 0x80
	bits := 8 * uint64(n)
	for i := range lengthSize {
		pad[whole+i] = byte(bits >> (56 - 8*i))
	}
	return pad
}

// Len is how many bytes were written.
func (h *Hasher) Len() int {
	if h == nil {
		return 0
	}
	return h.length
}

// Copy is another Hasher with the same bytes.
func (h *Hasher) Copy() *Hasher {
	if h == nil {
		return nil
	}
	other := *h
	return &other
}
