package run

import (
	"math"

	"dedup/api"
	"dedup/codec"
	"dedup/seq"
)

// What a run has beside its entries and its index.
const (
	mark      = "DRUN"
	entryHead = 4 // the lengths, and whether it is gone
	sumSize   = 4
	footSize  = 4*4 + sumSize + len(mark)
)

// mayBlock tells whether a block may have so many bytes.
func mayBlock(block int) bool {
	return block >= api.MinBlock && block <= api.MaxBlock
}

// Build is a run's bytes.
func Build(l []api.Entry, block int) ([]byte, api.Errno) {
	if !mayBlock(block) {
		return nil, api.ErrArg
	}
	if e := Check(l); e != api.OK {
		return nil, e
	}
	text, _ := lay(l, block)
	return []byte(text), api.OK
}

// Open is the run that bytes are: those whose entries, laid anew, are the same bytes.
func Open(b []byte) (*Run, api.Errno) {
	text := string(b)
	l, block, ok := entriesAndBlock(text)
	if !ok || !mayBlock(block) || Check(l) != api.OK {
		return nil, api.ErrRun
	}
	laid, index := lay(l, block)
	if laid != text {
		return nil, api.ErrRun
	}
	return &Run{bytes: text, count: len(l), index: index}, api.OK
}

// lay is the bytes of a list that may be a run's, and where its blocks are.
func lay(l []api.Entry, block int) (string, []seq.Item[string, span]) {
	var index []seq.Item[string, span]
	w := codec.NewWriter(math.MaxInt)
	for rest := l; len(rest) > 0; {
		entries, count := fill(rest, block)
		index = append(index, seq.Item[string, span]{Key: rest[0].Key, Value: span{from: w.Len(), size: len(entries)}})
		w.Raw(entries)
		w.U32(codec.Crc(entries))
		rest = rest[count:]
	}
	blocks, _ := w.Done()
	return blocks + tail(index, block, len(l), len(blocks)), index
}

// fill is the bytes of a list's first entries, as many as a block has room for, and how many these are.
func fill(l []api.Entry, block int) (string, int) {
	w := codec.NewWriter(block)
	ahead, count := "", 0
	for _, x := range l {
		b := entryBytes(ahead, x)
		if len(b) > block-w.Len() {
			break
		}
		w.Raw(b)
		ahead = x.Key
		count++
	}
	s, _ := w.Done()
	return s, count
}

// entryBytes is an entry's bytes behind a key.
func entryBytes(ahead string, x api.Entry) string {
	shared := sharedBytes(ahead, x.Key)
	w := codec.NewWriter(entryHead + api.MaxKey + api.MaxValue)
	w.U8(uint8(shared))
	w.U8(uint8(len(x.Key) - shared))
	if x.Gone {
		w.U8(1)
	} else {
		w.U8(0)
	}
	w.U8(uint8(len(x.Value)))
	w.Raw(x.Key[shared:])
	w.Raw(x.Value)
	s, _ := w.Done()
	return s
}

// sharedBytes is with how many equal bytes two texts begin.
func sharedBytes(a, b string) int {
	n := 0
	for n < len(a) && n < len(b) && a[n] == b[n] {
		n++
	}
	return n
}

// tail is the index and the foot, which stand behind the blocks.
func tail(index []seq.Item[string, span], block, count, at int) string {
	w := codec.NewWriter(math.MaxInt)
	for _, item := range index {
		w.Text(item.Key)
		w.Varint(uint64(item.Value.from))
		w.Varint(uint64(item.Value.size))
	}
	w.U32(uint32(block))
	w.U32(uint32(count))
	w.U32(uint32(len(index)))
	w.U32(uint32(at))
	summed, _ := w.Done()
	w.U32(codec.Crc(summed))
	w.Raw(mark)
	s, _ := w.Done()
	return s
}

// entriesAndBlock is what bytes that may be a run's have in their blocks, and how many bytes these have at most; laid anew it tells whether the rest is right.
func entriesAndBlock(text string) (l []api.Entry, block int, ok bool) {
	if len(text) < footSize {
		return nil, 0, false
	}
	foot := codec.NewReader(text[len(text)-footSize:])
	block = int(foot.U32())
	foot.U32() // how many entries
	blocks := int(foot.U32())
	at := int(foot.U32())
	if at > len(text)-footSize {
		return nil, 0, false
	}
	from := 0
	index := codec.NewReader(text[at : len(text)-footSize])
	for range blocks {
		index.Text()   // the first key
		index.Varint() // where it begins
		size := index.Varint()
		if index.Err() != api.OK || from > at || size > uint64(at-from) {
			return nil, 0, false
		}
		entries, right := entriesOf(text[from : from+int(size)])
		if !right {
			return nil, 0, false
		}
		l = append(l, entries...)
		from += int(size) + sumSize
	}
	return l, block, true
}

// entriesOf is the entries that a block's bytes are.
func entriesOf(block string) ([]api.Entry, bool) {
	var l []api.Entry
	ahead := ""
	r := codec.NewReader(block)
	for r.Left() > 0 {
		shared := int(r.U8())
		more := int(r.U8())
		gone := r.U8() == 1
		valueSize := int(r.U8())
		rest := r.Raw(more)
		value := r.Raw(valueSize)
		if r.Err() != api.OK || shared > len(ahead) {
			return nil, false
		}
		x := api.Entry{Key: ahead[:shared] + rest, Value: value, Gone: gone}
		if !mayEntry(x) { // asked at once: keys that share would grow and grow
			return nil, false
		}
		l = append(l, x)
		ahead = x.Key
	}
	return l, true
}
