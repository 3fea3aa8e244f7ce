package dir

import (
	"iter"

	"dedup/api"
	"dedup/codec"
	"dedup/tree"
)

// prefix is that of the keys under which entries lie.
const prefix = 'd'

// textSize is how many bytes an entry's value has.
const textSize = 5

// What a value's last byte tells.
const (
	fileKind = 1 + iota
	dirKind
)

// target is the inode that an entry names.
type target struct {
	number int
	isDir  bool
}

// entry is a name in a directory, and what it names.
type entry struct {
	name string
	to   target
}

// mayNumber tells whether a directory, or another inode, may have a number.
func mayNumber(number int) bool {
	return number >= 1 && number <= api.MaxNumber
}

// mayName tells whether an entry may have a name.
func mayName(name string) bool {
	may := name != "" && len(name) <= api.MaxName && name != "." && name != ".."
text:
	for i := range len(name) {
		switch name[i] {
		case '/', 0:
			may = false
			break text
		}
	}
	return may
}

// dirKey is ahead of all keys of a directory, and behind those of lower ones.
func dirKey(dir int) string {
	return entryKey(dir, "")
}

// entryKey is where a name of a directory lies.
func entryKey(dir int, name string) string {
	key, _ := codec.Key(prefix, []uint64{uint64(dir)}, name)
	return key
}

// text is a target as an entry's value.
func (x target) text() string {
	kind := uint8(fileKind)
	if x.isDir {
		kind = dirKind
	}
	w := codec.NewWriter(textSize)
	w.U32(uint32(x.number))
	w.U8(kind)
	text, _ := w.Done()
	return text
}

// asTarget is what a value names, and whether it is an entry's.
func asTarget(value string) (target, bool) {
	r := codec.NewReader(value)
	number, kind := int(r.U32()), r.U8()
	isKind := kind == fileKind || kind == dirKind
	if r.Done() != api.OK || !mayNumber(number) || !isKind {
		return target{}, false
	}
	return target{number: number, isDir: kind == dirKind}, true
}

// asEntry is the entry of which a key and a value tell, and whether they are one's.
func asEntry(key, value string) (entry, bool) {
	_, numbers, name, e := codec.Split(key, 1)
	to, ok := asTarget(value)
	if e != api.OK || !ok || !mayNumber(int(numbers[0])) || !mayName(name) {
		return entry{}, false
	}
	return entry{name: name, to: to}, true
}

// entries goes over the keys from from on and below to, as the entries that they are; false with one that is none.
func entries(t *tree.Tree, from, to string) iter.Seq2[entry, bool] {
	return func(yield func(entry, bool) bool) {
		for key, value := range t.Scan(from, to) {
			if !yield(asEntry(key, value)) {
				return
			}
		}
	}
}

// entriesOf goes over a directory's. Below the next one's first key lie shorter keys too, which are no entry's.
func entriesOf(t *tree.Tree, dir int) iter.Seq2[entry, bool] {
	return entries(t, dirKey(dir), dirKey(dir+1))
}

// everywhere goes over those of all directories.
func everywhere(t *tree.Tree) iter.Seq2[entry, bool] {
	from, _ := codec.Key(prefix, nil, "")
	to, _ := codec.Key(prefix+1, nil, "")
	return entries(t, from, to)
}
