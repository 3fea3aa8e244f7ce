package node

import (
	"dedup/api"
	"dedup/codec"
)

// What stands in a node's head.
const (
	mark      = "DNOD"
	leafKind  = 1
	innerKind = 2
	sumAt     = 12
	headSize  = 16
)

// head is what stands ahead of a node's entries; as a struct it is compared at once.
type head struct {
	mark  [len(mark)]byte
	kind  uint8
	zero  uint8
	keys  uint16
	bytes uint32 // of the entries
	sum   uint32
}

// maySize tells whether a sector may have so many bytes.
func maySize(size int) bool {
	return size >= api.MinSector && size <= api.MaxSector && size&(size-1) == 0
}

// headOf is the head of a node with these entries.
func headOf(n api.Node, entries string) head {
	h := head{kind: innerKind, keys: uint16(len(n.Keys)), bytes: uint32(len(entries))}
	if n.Leaf {
		h.kind = leafKind
	}
	copy(h.mark[:], mark)
	h.sum = codec.Crc(h.text()[:sumAt] + entries)
	return h
}

// text is a head's bytes.
func (h head) text() string {
	w := codec.NewWriter(headSize)
	w.Raw(string(h.mark[:]))
	w.U8(h.kind)
	w.U8(h.zero)
	w.U16(h.keys)
	w.U32(h.bytes)
	w.U32(h.sum)
	s, _ := w.Done()
	return s
}

// readHead is the head that bytes are, whether one may be so or not.
func readHead(s string) head {
	var h head
	r := codec.NewReader(s)
	copy(h.mark[:], r.Raw(len(mark)))
	h.kind = r.U8()
	h.zero = r.U8()
	h.keys = r.U16()
	h.bytes = r.U32()
	h.sum = r.U32()
	return h
}

// entriesOf is the entries' bytes of a node that may be and fits a size.
func entriesOf(size int, n api.Node) string {
	w := codec.NewWriter(size - headSize)
	if !n.Leaf {
		w.U32(uint32(n.Kids[0]))
	}
	for i, key := range n.Keys {
		w.U8(uint8(len(key)))
		if n.Leaf {
			w.U8(uint8(len(n.Values[i])))
			w.Raw(key)
			w.Raw(n.Values[i])
		} else {
			w.Raw(key)
			w.U32(uint32(n.Kids[i+1]))
		}
	}
	s, _ := w.Done()
	return s
}

// readEntries is the leaf or the inner node that has these entries, so many and nothing behind them, whether it may be or not.
func readEntries(leaf bool, keys int, entries string) (api.Node, bool) {
	n := api.Node{Leaf: leaf}
	r := codec.NewReader(entries)
	if !leaf {
		n.Kids = append(n.Kids, int(r.U32()))
	}
	for len(n.Keys) < keys && r.Err() == api.OK {
		length := int(r.U8())
		if leaf {
			valueLength := int(r.U8())
			n.Keys = append(n.Keys, r.Raw(length))
			n.Values = append(n.Values, r.Raw(valueLength))
		} else {
			n.Keys = append(n.Keys, r.Raw(length))
			n.Kids = append(n.Kids, int(r.U32()))
		}
	}
	return n, r.Done() == api.OK
}

// Encode is a node's bytes.
func Encode(size int, n api.Node) ([]byte, api.Errno) {
	if e := Check(n); e != api.OK {
		return nil, e
	}
	if !maySize(size) {
		return nil, api.ErrArg
	}
	if Size(n) > size {
		return nil, api.ErrFull
	}
	entries := entriesOf(size, n)
	b := make([]byte, size)
	copy(b, headOf(n, entries).text())
	copy(b[headSize:], entries)
	return b, api.OK
}

// Decode is the node that bytes are.
func Decode(size int, b []byte) (api.Node, api.Errno) {
	if !maySize(size) {
		return api.Node{}, api.ErrArg
	}
	if len(b) != size {
		return api.Node{}, api.ErrNode
	}
	h := readHead(string(b[:headSize]))
	if h.bytes > uint32(size-headSize) {
		return api.Node{}, api.ErrNode
	}
	end := headSize + int(h.bytes)
	entries := string(b[headSize:end])
	n, whole := readEntries(h.kind == leafKind, int(h.keys), entries)
	if !whole || Check(n) != api.OK || h != headOf(n, entries) || !zeros(b[end:]) {
		return api.Node{}, api.ErrNode
	}
	return n, api.OK
}

// zeros tells whether all bytes are 0.
func zeros(b []byte) bool {
	for _, x := range b {
		if x != 0 {
			return false
		}
	}
	return true
}
