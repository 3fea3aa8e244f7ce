package inode

import (
	"iter"

	"dedup/api"
	"dedup/codec"
	"dedup/tree"
)

// The prefixes of the keys under which inodes, orphans' marks and the counters lie.
const (
	inodePrefix   = 'i'
	orphanPrefix  = 'o'
	counterPrefix = 's'
)

// What a record's first byte tells.
const (
	fileKind = 1 + iota
	dirKind
)

// mostText is more than any value here has.
const mostText = 16

// mayNumber tells whether an inode may have a number.
func mayNumber(number int) bool {
	return number >= 1 && number <= api.MaxNumber
}

// mayLinks tells whether an inode may have so many links.
func mayLinks(links int) bool {
	return links >= 0 && links <= api.MaxLinks
}

// mayParent tells whether a directory, or a file, may have a parent.
func mayParent(dir bool, parent int) bool {
	if dir {
		return mayNumber(parent)
	}
	return parent == 0
}

// prefixKey is the first key of a prefix.
func prefixKey(prefix uint8) string {
	key, _ := codec.Key(prefix, nil, "")
	return key
}

// numberKey is the key of a prefix and an inode's number.
func numberKey(prefix uint8, number int) string {
	key, _ := codec.Key(prefix, []uint64{uint64(number)}, "")
	return key
}

// numberOf is the number of the inode of which a key is.
func numberOf(key string) (int, bool) {
	_, numbers, name, e := codec.Split(key, 1)
	if e != api.OK || name != "" {
		return 0, false
	}
	number := int(numbers[0])
	return number, mayNumber(number)
}

// inodeText is an inode's value.
func inodeText(x api.Inode) string {
	kind := uint8(fileKind)
	if x.Dir {
		kind = dirKind
	}
	w := codec.NewWriter(mostText)
	w.U8(kind)
	w.U32(uint32(x.Size))
	w.U32(uint32(x.Links))
	w.U32(uint32(x.Parent))
	text, _ := w.Done()
	return text
}

// asInode is the inode of which a number and a value tell, and whether it may be.
func asInode(number int, value string) (api.Inode, bool) {
	r := codec.NewReader(value)
	kind := r.U8()
	x := api.Inode{Number: number, Dir: kind == dirKind, Size: int(r.U32()), Links: int(r.U32()), Parent: int(r.U32())}
	isKind := kind == fileKind || kind == dirKind
	if r.Done() != api.OK || !isKind || Check(x) != api.OK {
		return api.Inode{}, false
	}
	return x, true
}

// valueOf is what lies under a prefix and a number: ErrNone, if nothing does.
func valueOf(t *tree.Tree, prefix uint8, number int) (string, api.Errno) {
	if t == nil {
		return "", api.ErrClosed
	}
	if !mayNumber(number) {
		return "", api.ErrNone
	}
	value, there, e := t.Get(numberKey(prefix, number))
	if e != api.OK {
		return "", e
	}
	if !there {
		return "", api.ErrNone
	}
	return value, api.OK
}

// without is the tree without what lies under a prefix and a number, whatever it is.
func without(t *tree.Tree, prefix uint8, number int) (*tree.Tree, api.Errno) {
	if _, e := valueOf(t, prefix, number); e != api.OK {
		return nil, e
	}
	return t.Delete(numberKey(prefix, number))
}

// readable tells why a tree can't be read: an iterator over its keys does not.
func readable(t *tree.Tree) api.Errno {
	_, e := t.Count()
	return e
}

// keysOf goes over the keys of a prefix, and their values.
func keysOf(t *tree.Tree, prefix uint8) iter.Seq2[string, string] {
	return t.Scan(prefixKey(prefix), prefixKey(prefix+1))
}

// inodesOf goes over the keys of inodes, as the inodes that they are; false with one that is none.
func inodesOf(t *tree.Tree) iter.Seq2[api.Inode, bool] {
	return func(yield func(api.Inode, bool) bool) {
		for key, value := range keysOf(t, inodePrefix) {
			number, _ := numberOf(key) // 0, or one that may not be, if it is none
			if !yield(asInode(number, value)) {
				return
			}
		}
	}
}

// marksOf goes over the keys of orphans' marks, as the numbers that they mark; false with one that is none.
func marksOf(t *tree.Tree) iter.Seq2[int, bool] {
	return func(yield func(int, bool) bool) {
		for key, value := range keysOf(t, orphanPrefix) {
			number, ok := numberOf(key)
			if !yield(number, ok && value == "") {
				return
			}
		}
	}
}
