package cut

import "dedup/api"

// Cutter cuts what is written piece by piece. It keeps no bytes: the hash of the last piece's tells all that its cut hangs on.
type Cutter struct {
	shape api.Cut
	last  piece // not told yet
}

// New is a cutter to which nothing was written.
func New(c api.Cut) (*Cutter, api.Errno) {
	if e := Check(c); e != api.OK {
		return nil, e
	}
	return &Cutter{shape: c}, api.OK
}

// made tells whether New made it: by another shape pieces would not end.
func (x *Cutter) made() bool {
	return x != nil && x.shape.Max > 0
}

// Write puts bytes behind those that were written: the lengths that are sure now.
func (x *Cutter) Write(b []byte) []int {
	if !x.made() {
		return nil
	}
	var sure []int
	for len(b) > 0 {
		n, ended := x.last.grow(x.shape, b)
		b = b[n:]
		if ended {
			sure = append(sure, x.last.length)
			x.last = piece{}
		}
	}
	return sure
}

// End is the lengths of the rest, which is one piece at most: all that were sure are told.
func (x *Cutter) End() []int {
	if !x.made() || x.last.length == 0 {
		return nil
	}
	rest := []int{x.last.length}
	x.last = piece{}
	return rest
}
