package space

import (
	"iter"

	"dedup/api"
)

// byteBits is how many sectors a byte of Bits tells of.
const byteBits = 8

// taken has the sectors that are not free.
func (s *Space) taken() bitmap {
	return or(s.used, s.waiting)
}

// Left is how many are free and not reserved.
func (s *Space) Left() int {
	if !s.made() {
		return 0
	}
	return s.count - s.used.ones() - s.waiting.ones() - s.reserved
}

// Used is how many are used.
func (s *Space) Used() int {
	if !s.made() {
		return 0
	}
	return s.used.ones()
}

// Waiting is how many wait.
func (s *Space) Waiting() int {
	if !s.made() {
		return 0
	}
	return s.waiting.ones()
}

// Has tells whether a sector is one of the space's that is not free.
func (s *Space) Has(sector int) bool {
	if !s.made() {
		return false
	}
	from, end, ok := s.places(api.Area{First: sector, Count: 1})
	taken := s.taken()
	return ok && taken.firstSet(from, end) == from
}

// Runs goes over the free runs, as they are when the ranging begins.
func (s *Space) Runs() iter.Seq[api.Area] {
	return func(yield func(api.Area) bool) {
		if !s.made() {
			return
		}
		taken := s.taken() // a copy: what is taken meanwhile changes nothing of it
		for from := taken.firstUnset(0, s.count); from < s.count; {
			end := taken.firstSet(from, s.count)
			if !yield(api.Area{First: s.first + from, Count: end - from}) {
				return
			}
			from = taken.firstUnset(end, s.count)
		}
	}
}

// Bits is a bit for each sector: 1 if it is not free.
func (s *Space) Bits() string {
	if !s.made() {
		return ""
	}
	taken := s.taken()
	b := make([]byte, (s.count+byteBits-1)/byteBits)
	for i := range b {
		at := byteBits * i
		b[i] = byte(taken[at/wordBits] >> (at % wordBits))
	}
	return string(b)
}
