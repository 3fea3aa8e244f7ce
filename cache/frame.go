package cache

import "iter"

// frame is a sector in memory; it stands in a ring by its last use.
type frame struct {
	sector int
	bytes  []byte
	pins   int
	dirty  bool
	order  uint64 // 0, if it is clean
	older  *frame
	newer  *frame
}

// newRing is a ring without frames: the frame that is newer than all, and older than all, which is no sector's.
func newRing() *frame {
	ring := &frame{}
	ring.older, ring.newer = ring, ring
	return ring
}

// enter lets a frame that is in no ring be the newest one of a ring.
func (f *frame) enter(ring *frame) {
	f.older, f.newer = ring.older, ring
	f.older.newer, f.newer.older = f, f
}

// leave takes a frame out of its ring.
func (f *frame) leave() {
	f.older.newer, f.newer.older = f.newer, f.older
}

// oldestFirst goes over a ring's frames; the one that is told may leave meanwhile.
func oldestFirst(ring *frame) iter.Seq[*frame] {
	return func(yield func(*frame) bool) {
		for f := ring.newer; f != ring; {
			next := f.newer
			if !yield(f) {
				return
			}
			f = next
		}
	}
}
