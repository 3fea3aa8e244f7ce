package chunk

import (
	"bytes"
	"iter"

	"dedup/api"
	"dedup/codec"
	"dedup/level"
	"dedup/tree"
)

// tiers is how the index is laid.
func tiers() api.Tiers {
	return api.Tiers{Block: 256, Fan: 4, Top: 256}
}

// indexKey is what the index has of a chunk: those of one sum are neighbours, by their numbers.
func indexKey(sum [sumSize]byte, id int) string {
	return numbersText(string(sum[:]), id)
}

// indexedId is the number of the chunk of which the index has a key.
func indexedId(key string) int {
	return int(codec.NewReader(key[sumSize:]).U32())
}

// indexKeys goes over what an index has of the chunks of a tree, by their numbers.
func indexKeys(t *tree.Tree) iter.Seq[string] {
	return func(yield func(string) bool) {
		for x, ok := range recordsOf(t, chunkPrefix, asChunk) {
			if ok && !yield(indexKey(x.Sum, x.Id)) {
				return
			}
		}
	}
}

// indexOf is the index of the chunks of a tree.
func indexOf(t *tree.Tree) *level.Levels {
	var entries []api.Entry
	for key := range indexKeys(t) {
		entries = append(entries, api.Entry{Key: key})
	}
	l, _ := level.Rebuild(tiers(), entries)
	return l
}

// learned is the index of the book's tree; the book's own one stays as it is.
func (b *Book) learned() (*level.Levels, api.Errno) {
	if !b.shape.Dedup || b.known == b.tree {
		return b.index, api.OK
	}
	// What an iterator over keys does not reach would be stored twice.
	if _, e := b.tree.Count(); e != api.OK {
		return nil, e
	}
	if sameSums(b.known, b.tree) {
		return b.index, api.OK
	}
	return indexOf(b.tree), api.OK
}

// sameSums tells whether two trees have the same chunks, however often they are referred to and wherever they lie.
func sameSums(a, b *tree.Tree) bool {
	var l []api.Pair
	for key, value := range keysOf(a, chunkPrefix) {
		l = append(l, api.Pair{Key: key, Value: value})
	}
	n := 0
	for key, value := range keysOf(b, chunkPrefix) {
		if n == len(l) || l[n].Key != key || !sameSum(l[n].Value, value) {
			return false
		}
		n++
	}
	return n == len(l)
}

// sameSum tells whether two values of a chunk's record have the same sum, or are none both.
func sameSum(a, b string) bool {
	if a == b {
		return true // as nearly all are: they need not be read
	}
	x, isOne := asChunk(0, a)
	y, isOther := asChunk(0, b)
	return isOne == isOther && x.Sum == y.Sum
}

// twin is the first chunk of an index whose bytes are data, by rising numbers.
func (b *Book) twin(index *level.Levels, sum [sumSize]byte, data []byte) (api.Chunk, bool) {
	for key := range index.Scan(indexKey(sum, 0), indexKey(sum, api.MaxNumber+1)) {
		x, e := chunkOf(b.tree, indexedId(key))
		if e != api.OK || x.Sum != sum || x.Length != len(data) {
			continue
		}
		if twin, e := b.bytesOf(x); e == api.OK && bytes.Equal(twin, data) {
			return x, true
		}
	}
	return api.Chunk{}, false
}

// Compact is a step of the index.
func (b *Book) Compact() bool {
	return b.made() && b.index.Step()
}
