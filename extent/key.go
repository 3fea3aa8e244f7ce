package extent

import (
	"iter"

	"dedup/api"
	"dedup/codec"
	"dedup/tree"
)

// prefix is that of the keys under which extents lie.
const prefix = 'x'

// textSize is how many bytes an extent's value has.
const textSize = 8

// piece is an extent and its inode.
type piece struct {
	ino    int
	extent api.Extent
}

// mayInode tells whether an inode may have a number.
func mayInode(ino int) bool {
	return ino >= 0 && ino <= api.MaxNumber
}

// inodeKey is ahead of all keys of an inode, and behind those of lower ones.
func inodeKey(ino int) string {
	key, _ := codec.Key(prefix, []uint64{uint64(ino)}, "")
	return key
}

// extentKey is where an extent of an inode lies.
func extentKey(ino, offset int) string {
	key, _ := codec.Key(prefix, []uint64{uint64(ino), uint64(offset)}, "")
	return key
}

// extentText is an extent's value.
func extentText(x api.Extent) string {
	w := codec.NewWriter(textSize)
	w.U32(uint32(x.Chunk))
	w.U32(uint32(x.Length))
	text, _ := w.Done()
	return text
}

// asPiece is the extent that a key and a value tell of, and whether it may be.
func asPiece(key, value string) (piece, bool) {
	k, v := codec.NewReader(key), codec.NewReader(value)
	k.U8()
	ino := int(k.U64())
	x := api.Extent{Offset: int(k.U64()), Chunk: int(v.U32()), Length: int(v.U32())}
	if k.Done() != api.OK || v.Done() != api.OK || !mayInode(ino) || Check(x) != api.OK {
		return piece{}, false
	}
	return piece{ino: ino, extent: x}, true
}

// pieces goes over the keys from from on and below to, as the extents that they are; false with one that is none.
func pieces(t *tree.Tree, from, to string) iter.Seq2[piece, bool] {
	return func(yield func(piece, bool) bool) {
		for key, value := range t.Scan(from, to) {
			if !yield(asPiece(key, value)) {
				return
			}
		}
	}
}

// everywhere goes over the extents of all inodes, by inode, then by offset.
func everywhere(t *tree.Tree) iter.Seq2[piece, bool] {
	from, _ := codec.Key(prefix, nil, "")
	to, _ := codec.Key(prefix+1, nil, "")
	return pieces(t, from, to)
}
