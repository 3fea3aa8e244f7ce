package node_test

import (
	"bytes"
	"encoding/binary"
	"fmt"
	"hash/crc32"
	"math"
	"math/rand"
	"slices"
	"testing"

	"dedup/api"
	"dedup/node"
)

// laid is a sector of a head with these fields and its right check sum, entries, and zeros, as the chapter tells it, whether it is a node's or not.
func laid(size int, mark string, kind, zero byte, keys, length int, entries []byte) []byte {
	b := append([]byte(mark), kind, zero)
	b = binary.BigEndian.AppendUint16(b, uint16(keys))
	b = binary.BigEndian.AppendUint32(b, uint32(length))
	summed := append(slices.Clone(b), entries...)
	b = binary.BigEndian.AppendUint32(b, crc32.Checksum(summed, crc32.MakeTable(crc32.Castagnoli)))
	b = append(b, entries...)
	return append(b, make([]byte, max(size-len(b), 0))...)[:size]
}

// plainEntries is a node's entries as the chapter tells them.
func plainEntries(n api.Node) []byte {
	var b []byte
	if !n.Leaf {
		b = binary.BigEndian.AppendUint32(b, uint32(n.Kids[0]))
	}
	for i, key := range n.Keys {
		b = append(b, byte(len(key)))
		if n.Leaf {
			b = append(b, byte(len(n.Values[i])))
			b = append(b, key...)
			b = append(b, n.Values[i]...)
		} else {
			b = append(b, key...)
			b = binary.BigEndian.AppendUint32(b, uint32(n.Kids[i+1]))
		}
	}
	return b
}

// plainBytes is a node's bytes as the chapter tells them, whether it may be or not.
func plainBytes(size int, n api.Node) []byte {
	kind := byte(2)
	if n.Leaf {
		kind = 1
	}
	entries := plainEntries(n)
	return laid(size, "DNOD", kind, 0, len(n.Keys), len(entries), entries)
}

// someText is a text by chance, of low to high bytes; of few letters, so that they meet.
func someText(r *rand.Rand, low, high int) string {
	letters := "ab\x00\xff"
	b := make([]byte, low+r.Intn(high-low+1))
	for i := range b {
		b[i] = letters[r.Intn(len(letters))]
	}
	return string(b)
}

// someLength is the most bytes that keys, or values, of a node have: often few or all.
func someLength(r *rand.Rand, low, high int) int {
	switch r.Intn(3) {
	case 0:
		return high
	case 1:
		return low + r.Intn(4)
	}
	return low + r.Intn(high-low+1)
}

// someNode is a node that may be, by chance, whose Size is at most size.
func someNode(r *rand.Rand, size int, isLeaf bool) api.Node {
	n := inner(someText(r, 1, 64))
	if isLeaf {
		n = api.Node{Leaf: true}
	}
	longKey, longValue := someLength(r, 1, 64), someLength(r, 0, 64)
	for range r.Intn(1 + size/8) {
		m := api.Node{Leaf: isLeaf}
		key := someText(r, 1, longKey)
		if r.Intn(3) == 0 {
			key = someText(r, longKey, longKey)
		}
		place, there := slices.BinarySearch(n.Keys, key)
		if there {
			continue
		}
		m.Keys = slices.Insert(slices.Clone(n.Keys), place, key)
		if isLeaf {
			m.Values = slices.Insert(slices.Clone(n.Values), place, someText(r, 0, longValue))
		} else {
			m.Kids = append(slices.Clone(n.Kids), int(r.Uint32()))
		}
		if 16+len(plainEntries(m)) > size {
			break
		}
		n = m
	}
	return n
}

// TestEncode: P9.2, with the words: the bytes, letter by letter.
func TestEncode(t *testing.T) {
	for _, c := range []struct {
		n    api.Node
		want []byte // but for the check sum
	}{
		{api.Node{Leaf: true}, []byte("DNOD\x01\x00\x00\x00\x00\x00\x00\x00")},
		{leaf("a", "1", "bb", "22"), []byte("DNOD\x01\x00\x00\x02\x00\x00\x00\x0a....\x01\x01a1\x02\x02bb22")},
		{leaf("a", ""), []byte("DNOD\x01\x00\x00\x01\x00\x00\x00\x03....\x01\x00a")},
		{api.Node{Keys: []string{"m"}, Kids: []int{5, 0x01020304}}, []byte("DNOD\x02\x00\x00\x01\x00\x00\x00\x0a....\x00\x00\x00\x05\x01m\x01\x02\x03\x04")},
		{api.Node{Keys: []string{"m", "nn"}, Kids: []int{0, 1<<32 - 1, 7}}, []byte("DNOD\x02\x00\x00\x02\x00\x00\x00\x11....\x00\x00\x00\x00\x01m\xff\xff\xff\xff\x02nn\x00\x00\x00\x07")},
	} {
		for _, size := range []int{512, 1024, 2048, 4096} {
			want := make([]byte, size)
			copy(want, c.want)
			summed := append(slices.Clone(c.want[:12]), c.want[min(16, len(c.want)):]...)
			binary.BigEndian.PutUint32(want[12:], crc32.Checksum(summed, crc32.MakeTable(crc32.Castagnoli)))
			if b, e := node.Encode(size, c.n); e != api.OK || !bytes.Equal(b, want) {
				t.Errorf("Encode of %+v: %x, error %d, want %x", c.n, b, e, want)
			}
		}
	}
}

// filled is a leaf of just so many bytes, of which there are at least 22.
func filled(size int) api.Node {
	n := api.Node{Leaf: true}
	for left := size - 16; left > 0; {
		entry := min(left, 70)
		if entry < left && left-entry < 6 {
			entry -= 6 // so that what is left is an entry's
		}
		n.Keys = append(n.Keys, fmt.Sprintf("%04d", len(n.Keys)))
		n.Values = append(n.Values, long(entry-6))
		left -= entry
	}
	return n
}

// TestEncodeRefused: P9.2: what Check refuses comes first, then the size, then that it does not fit.
func TestEncodeRefused(t *testing.T) {
	sizes := []int{512, 1024, 2048, 4096}
	wrong := []int{0, 1, -1, -512, 256, 511, 513, 768, 1000, 4095, 4097, 8192, math.MaxInt, math.MinInt}
	refuse := func(what string, size int, n api.Node, want api.Errno) {
		t.Helper()
		if b, e := node.Encode(size, n); e != want || len(b) != 0 {
			t.Errorf("Encode of %s, %d: error %d, %d bytes, want %d", what, size, e, len(b), want)
		}
	}
	for what, c := range refused() {
		for _, size := range append(wrong, sizes...) {
			refuse(what, size, c.n, c.e)
		}
	}
	for _, size := range wrong {
		refuse("a wrong size", size, leaf("a", "1"), api.ErrArg)
		refuse("a wrong size, and a great node", size, filled(8192), api.ErrArg)
	}
	for _, size := range sizes {
		if n := filled(size); node.Size(n) != size {
			t.Fatal("filled", size, node.Size(n))
		}
		if b, e := node.Encode(size, filled(size)); e != api.OK || !bytes.Equal(b, plainBytes(size, filled(size))) {
			t.Error("Encode of what just fits", size, e)
		}
		refuse("a byte too many", size, filled(size+1), api.ErrFull)
		refuse("far too many", size, filled(70000), api.ErrFull)
		var keys []string
		for i := range 70000 {
			keys = append(keys, fmt.Sprintf("%06d", i))
		}
		refuse("an inner one of far too many", size, inner(keys...), api.ErrFull)
	}
}

// TestDecodeArguments: P9.2: which sizes may be, and that the bytes must be as many.
func TestDecodeArguments(t *testing.T) {
	b := plainBytes(4096, leaf("a", "1"))
	for _, size := range []int{0, 1, -1, -512, 256, 511, 513, 768, 4095, 4097, 8192, math.MaxInt, math.MinInt} {
		for _, b := range [][]byte{nil, b, b[:512], make([]byte, 8192)} {
			n, e := node.Decode(size, b)
			wantNoNode(t, fmt.Sprint("Decode ", size), n, e, api.ErrArg)
		}
	}
	for _, size := range []int{512, 1024, 2048, 4096} {
		b := plainBytes(size, leaf("a", "1"))
		n, e := node.Decode(size, b)
		wantNode(t, "Decode", n, e, leaf("a", "1"))
		for _, b := range [][]byte{nil, b[:0], b[:4], b[:15], b[:16], b[:20], b[:size-1], append(slices.Clone(b), 0), append(slices.Clone(b), b...), plainBytes(size/2, leaf("a", "1"))} {
			n, e := node.Decode(size, b)
			wantNoNode(t, fmt.Sprint("Decode of ", len(b)), n, e, api.ErrNode)
		}
	}
}

// TestDecodeRefused: P9.2: bytes that are no node's, though the check sum is theirs.
func TestDecodeRefused(t *testing.T) {
	one := []byte("\x01\x01a1")
	two := []byte("\x01\x01a1\x02\x02bb22")
	kids := []byte("\x00\x00\x00\x05\x01m\x00\x00\x00\x09")
	behind := func(at int, b []byte) []byte {
		b[at] = 1
		return b
	}
	sumOf := func(summed, b []byte) []byte {
		binary.BigEndian.PutUint32(b[12:], crc32.Checksum(summed, crc32.MakeTable(crc32.Castagnoli)))
		return b
	}
	good := laid(512, "DNOD", 1, 0, 1, 4, one)
	for what, b := range map[string][]byte{
		"zeros":                          make([]byte, 512),
		"another mark":                   laid(512, "DNOE", 1, 0, 1, 4, one),
		"small letters":                  laid(512, "dnod", 1, 0, 1, 4, one),
		"the kind 0":                     laid(512, "DNOD", 0, 0, 1, 4, one),
		"the kind 3":                     laid(512, "DNOD", 3, 0, 1, 4, one),
		"the kind 0 of an inner one":     laid(512, "DNOD", 0, 0, 1, 10, kids),
		"the kind 3 of an inner one":     laid(512, "DNOD", 3, 0, 1, 10, kids),
		"a leaf said to be inner":        laid(512, "DNOD", 2, 0, 1, 4, one),
		"an inner one said to be a leaf": laid(512, "DNOD", 1, 0, 1, 10, kids),
		"no 0 behind the kind":           laid(512, "DNOD", 1, 1, 1, 4, one),
		"a key too few":                  laid(512, "DNOD", 1, 0, 1, 10, two),
		"a key too many":                 laid(512, "DNOD", 1, 0, 3, 10, two),
		"keys of zeros":                  laid(512, "DNOD", 1, 0, 2, 6, []byte("\x01\x01a1\x00\x00")),
		"no key said":                    laid(512, "DNOD", 1, 0, 0, 4, one),
		"65535 keys":                     laid(512, "DNOD", 1, 0, 65535, 4, one),
		"a byte said too many":           laid(512, "DNOD", 1, 0, 1, 5, one),
		"a byte more":                    laid(512, "DNOD", 1, 0, 1, 5, []byte("\x01\x01a1\x00")),
		"a byte said too few":            laid(512, "DNOD", 1, 0, 1, 3, one),
		"no byte said":                   laid(512, "DNOD", 1, 0, 1, 0, one),
		"no bytes":                       laid(512, "DNOD", 1, 0, 1, 0, nil),
		"bytes above the room":           laid(512, "DNOD", 1, 0, 1, 497, one),
		"bytes of 2^31":                  laid(512, "DNOD", 1, 0, 1, 1<<31, one),
		"bytes of 2^32 - 1":              laid(512, "DNOD", 1, 0, 1, 1<<32-1, one),
		"a key that ends early":          laid(512, "DNOD", 1, 0, 1, 4, []byte("\x03\x01a1")),
		"a value that ends early":        laid(512, "DNOD", 1, 0, 1, 4, []byte("\x01\x02a1")),
		"a kid that ends early":          laid(512, "DNOD", 2, 0, 1, 9, kids[:9]),
		"no first kid":                   laid(512, "DNOD", 2, 0, 0, 0, nil),
		"an inner one without a key":     laid(512, "DNOD", 2, 0, 0, 4, kids[:4]),
		"an inner one, a key too few":    laid(512, "DNOD", 2, 0, 0, 10, kids),
		"an inner one, a key too many":   laid(512, "DNOD", 2, 0, 2, 10, kids),
		"an empty key":                   plainBytes(512, leaf("", "1")),
		"a key of 65":                    plainBytes(512, leaf(long(65), "1")),
		"a value of 65":                  plainBytes(512, leaf("a", long(65))),
		"a key of 255":                   plainBytes(512, leaf(long(255), "")),
		"an inner one's empty key":       plainBytes(512, inner("", "a")),
		"an inner one's key of 65":       plainBytes(512, inner(long(65))),
		"keys that fall":                 plainBytes(512, leaf("b", "", "a", "")),
		"a key twice":                    plainBytes(512, leaf("a", "", "a", "")),
		"an inner one's keys fall":       plainBytes(512, inner("b", "a")),
		"an inner one's key twice":       plainBytes(512, inner("a", "a")),
		"a byte behind":                  behind(20, slices.Clone(good)),
		"the last byte":                  behind(511, slices.Clone(good)),
		"the sum of the entries":         sumOf(one, slices.Clone(good)),
		"the sum of the head":            sumOf(good[:12], slices.Clone(good)),
		"the sum of all":                 sumOf(append(slices.Clone(good[:12]), good[16:]...), slices.Clone(good)),
		"no sum":                         append(append(slices.Clone(good[:12]), 0, 0, 0, 0), good[16:]...),
	} {
		n, e := node.Decode(512, b)
		wantNoNode(t, what, n, e, api.ErrNode)
	}
	n, e := node.Decode(512, good)
	wantNode(t, "the good one", n, e, leaf("a", "1"))
	n, e = node.Decode(512, laid(512, "DNOD", 2, 0, 1, 10, kids))
	wantNode(t, "the good inner one", n, e, api.Node{Keys: []string{"m"}, Kids: []int{5, 9}})
}

// TestTurnedBits: P9.2: a node with a bit turned, anywhere, is none.
func TestTurnedBits(t *testing.T) {
	for _, n := range []api.Node{{Leaf: true}, leaf("a", "1", "bb", "22"), inner("m", "n"), filled(512)} {
		b := plainBytes(512, n)
		for i := range b {
			for bit := range 8 {
				b[i] ^= 1 << bit
				if got, e := node.Decode(512, b); e != api.ErrNode || !same(got, api.Node{}) {
					t.Fatal("a bit of byte", i, "turned:", got, e)
				}
				b[i] ^= 1 << bit
			}
		}
	}
}

// TestThereAndBack: P9.5: Decode of Encode is the node, Encode of Decode the bytes, which are those of the chapter.
func TestThereAndBack(t *testing.T) {
	r := rand.New(rand.NewSource(95))
	nodes := taken()
	for range 1500 {
		nodes = append(nodes, someNode(r, 512<<r.Intn(4), r.Intn(2) == 0))
	}
	for _, n := range nodes {
		for size := 512; size <= 4096; size *= 2 {
			plain := 16 + len(plainEntries(n))
			if got := node.Size(n); got != plain {
				t.Fatalf("Size of %+v: %d, want %d", n, got, plain)
			}
			b, e := node.Encode(size, n)
			if plain > size {
				wantErr(t, "Encode of what does not fit", e, api.ErrFull)
				continue
			}
			if e != api.OK || !bytes.Equal(b, plainBytes(size, n)) {
				t.Fatalf("Encode of %+v: %x, error %d", n, b, e)
			}
			got, e := node.Decode(size, b)
			wantNode(t, "Decode", got, e, n)
			again, e := node.Encode(size, got)
			if e != api.OK || !bytes.Equal(again, b) {
				t.Fatalf("Encode again of %+v: %x, error %d", n, again, e)
			}
		}
	}
}

// TestChangedBytes: P9.2, P9.5: of bytes that were changed anyhow, and summed again, Decode tells a node just if Encode of it is these bytes.
func TestChangedBytes(t *testing.T) {
	r := rand.New(rand.NewSource(92))
	took := 0
	for range 40000 {
		n := someNode(r, 120, r.Intn(2) == 0)
		b := plainBytes(512, n)
		for range 1 + r.Intn(2) {
			b[r.Intn(16+len(plainEntries(n))+1)] = byte(r.Intn(6))
		}
		end := 16 + min(int(binary.BigEndian.Uint32(b[8:])), 496)
		binary.BigEndian.PutUint32(b[12:], crc32.Checksum(append(slices.Clone(b[:12]), b[16:end]...), crc32.MakeTable(crc32.Castagnoli)))
		got, e := node.Decode(512, b)
		if e != api.OK {
			wantNoNode(t, "Decode", got, e, api.ErrNode)
			continue
		}
		took++
		if node.Check(got) != api.OK || !bytes.Equal(plainBytes(512, got), b) {
			t.Fatalf("Decode of %x: %+v", b, got)
		}
	}
	if took < 1000 {
		t.Error("too few were nodes:", took)
	}
}

// TestBytesAreLeft: R3: bytes are not changed and not kept; what is told is new each time.
func TestBytesAreLeft(t *testing.T) {
	b := plainBytes(512, leaf("a", "1", "b", "2"))
	before := slices.Clone(b)
	n, _ := node.Decode(512, b)
	other, _ := node.Decode(512, b)
	if !bytes.Equal(b, before) {
		t.Error("the bytes have changed")
	}
	clear(b)
	n.Keys[0], n.Values[0] = "x", "x"
	if !same(other, leaf("a", "1", "b", "2")) {
		t.Errorf("what was told has changed: %+v", other)
	}
	x, _ := node.Encode(512, other)
	y, _ := node.Encode(512, other)
	clear(x)
	if !bytes.Equal(y, before) {
		t.Error("two Encodes share bytes")
	}
}
