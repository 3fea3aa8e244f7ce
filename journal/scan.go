package journal

import (
	"iter"
	"slices"

	"dedup/api"
	"dedup/codec"
)

// mayScan tells whether an image is a journal's sectors.
func mayScan(size int, image []byte) bool {
	return maySize(size) && len(image)%size == 0 && maySectors(len(image)/size)
}

// right goes over the sectors ahead of the first one that is not right: the bytes of records that each has.
func right(size int, generation uint64, image []byte) iter.Seq[[]byte] {
	return func(yield func([]byte) bool) {
		place := 0
		for b := range slices.Chunk(image, size) {
			used, ok := usedOf(b, generation, place)
			if !ok || !yield(used) {
				return
			}
			place++
		}
	}
}

// Scan is the records that are found.
func Scan(size int, generation uint64, image []byte) ([]string, api.Errno) {
	if !mayScan(size, image) {
		return nil, api.ErrArg
	}
	var stream []byte
	for used := range right(size, generation, image) {
		stream = append(stream, used...)
	}
	return recordsOf(string(stream)), api.OK
}

// recordsOf is the records of a stream that are whole.
func recordsOf(stream string) []string {
	var l []string
	r := codec.NewReader(stream)
	for r.Left() >= lengthSize {
		n := r.U32()
		if n > maxRecord || int(n) > r.Left() {
			break
		}
		l = append(l, r.Raw(int(n)))
	}
	return l
}

// Sectors is how many sectors are right.
func Sectors(size int, generation uint64, image []byte) (int, api.Errno) {
	if !mayScan(size, image) {
		return 0, api.ErrArg
	}
	n := 0
	for range right(size, generation, image) {
		n++
	}
	return n, api.OK
}
