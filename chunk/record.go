package chunk

import (
	"iter"

	"dedup/api"
	"dedup/codec"
	"dedup/tree"
)

// The prefixes of the keys under which a book's things lie.
const (
	chunkPrefix     = 'c'
	containerPrefix = 'k'
	counterPrefix   = 's'
)

// The places of the counters.
const (
	inodeCounter = iota
	chunkCounter
	containerCounter
	counterCount
)

const (
	sumSize    = 32
	recordSize = 64 // more than any record has
)

// prefixKey is the first key of a prefix.
func prefixKey(prefix uint8) string {
	key, _ := codec.Key(prefix, nil, "")
	return key
}

// recordKey is the key of a number's record.
func recordKey(prefix uint8, id int) string {
	key, _ := codec.Key(prefix, []uint64{uint64(id)}, "")
	return key
}

// mayNumber tells whether a chunk or a container may have a number.
func mayNumber(id int) bool {
	return id >= 1 && id <= api.MaxNumber
}

// numberOf is the number of which a key is a record's.
func numberOf(key string) (int, bool) {
	_, numbers, name, e := codec.Split(key, 1)
	if e != api.OK || name != "" {
		return 0, false
	}
	id := int(numbers[0])
	return id, mayNumber(id)
}

// numbersText is numbers of 32 bits behind a text.
func numbersText(ahead string, numbers ...int) string {
	w := codec.NewWriter(recordSize)
	w.Raw(ahead)
	for _, n := range numbers {
		w.U32(uint32(n))
	}
	text, _ := w.Done()
	return text
}

// chunkText is a chunk's record.
func chunkText(x api.Chunk) string {
	return numbersText(string(x.Sum[:]), x.Container, x.Offset, x.Length, x.Refs)
}

// asChunk is the chunk that a record's value tells of.
func asChunk(id int, value string) (api.Chunk, bool) {
	r := codec.NewReader(value)
	x := api.Chunk{Id: id}
	copy(x.Sum[:], r.Raw(sumSize))
	x.Container, x.Offset, x.Length, x.Refs = int(r.U32()), int(r.U32()), int(r.U32()), int(r.U32())
	may := x.Refs >= 1 && x.Refs <= api.MaxNumber && x.Length >= 1 && mayNumber(x.Container)
	if r.Done() != api.OK || !may {
		return api.Chunk{}, false
	}
	return x, true
}

// containerText is a container's record.
func containerText(k api.Container) string {
	return numbersText("", k.First, k.Slots, k.Live)
}

// asContainer is the container that a record's value tells of.
func asContainer(id int, value string) (api.Container, bool) {
	r := codec.NewReader(value)
	k := api.Container{Id: id, First: int(r.U32()), Slots: int(r.U32()), Live: int(r.U32())}
	if r.Done() != api.OK || k.Live > k.Slots {
		return api.Container{}, false
	}
	return k, true
}

// reading is what tells of a number and a value what record they are, and whether they are one.
type reading[R any] func(id int, value string) (R, bool)

// recordOf is the record of a number: ErrChunk, if there is none.
func recordOf[R any](t *tree.Tree, prefix uint8, id int, read reading[R]) (R, api.Errno) {
	var none R
	if !mayNumber(id) {
		return none, api.ErrChunk
	}
	value, there, e := t.Get(recordKey(prefix, id))
	if e != api.OK {
		return none, e
	}
	if x, ok := read(id, value); there && ok {
		return x, api.OK
	}
	return none, api.ErrChunk
}

// chunkOf is the chunk of a number.
func chunkOf(t *tree.Tree, id int) (api.Chunk, api.Errno) {
	return recordOf(t, chunkPrefix, id, asChunk)
}

// containerOf is the container of a number.
func containerOf(t *tree.Tree, id int) (api.Container, api.Errno) {
	return recordOf(t, containerPrefix, id, asContainer)
}

// keysOf goes over the keys of a prefix, and their values.
func keysOf(t *tree.Tree, prefix uint8) iter.Seq2[string, string] {
	return t.Scan(prefixKey(prefix), prefixKey(prefix+1))
}

// recordsOf goes over the keys of a prefix, as the records that they are; false with one that is none.
func recordsOf[R any](t *tree.Tree, prefix uint8, read reading[R]) iter.Seq2[R, bool] {
	return func(yield func(R, bool) bool) {
		for key, value := range keysOf(t, prefix) {
			id, isKey := numberOf(key)
			x, isValue := read(id, value)
			if !yield(x, isKey && isValue) {
				return
			}
		}
	}
}

// countersOf is the next numbers: ErrChunk, if what lies there is none.
func countersOf(t *tree.Tree) ([counterCount]int, api.Errno) {
	none := [counterCount]int{}
	value, there, e := t.Get(prefixKey(counterPrefix))
	if e != api.OK {
		return none, e
	}
	if !there {
		return [counterCount]int{1, 1, 1}, api.OK
	}
	var l [counterCount]int
	r := codec.NewReader(value)
	for i := range l {
		l[i] = int(r.U32())
		if l[i] < 1 || l[i] > api.MaxNumber+1 {
			return none, api.ErrChunk
		}
	}
	if r.Done() != api.OK {
		return none, api.ErrChunk
	}
	return l, api.OK
}
