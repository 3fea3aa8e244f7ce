package run_test

import (
	"encoding/binary"
	"hash/crc32"
	"math/rand"
	"slices"
	"strings"
	"testing"

	"dedup/api"
	"dedup/run"
)

// long is a text of n bytes.
func long(n int) string {
	return strings.Repeat("x", n)
}

// sum is a check sum, in 4 bytes.
func sum(b []byte) []byte {
	return binary.BigEndian.AppendUint32(nil, crc32.Checksum(b, crc32.MakeTable(crc32.Castagnoli)))
}

// laid is a block's entries, and what the index says of it.
type laid struct {
	entries []byte
	first   string
	from    int
	size    int
}

// plainEntry is an entry's bytes behind a key, as the chapter tells them.
func plainEntry(ahead string, x api.Entry) []byte {
	shared := 0
	for shared < min(len(ahead), len(x.Key)) && ahead[:shared+1] == x.Key[:shared+1] {
		shared++
	}
	return entry(shared, x.Key[shared:], x.Gone, x.Value)
}

// entry is an entry of these parts.
func entry(shared int, rest string, gone bool, value string) []byte {
	b := []byte{byte(shared), byte(len(rest)), 0, byte(len(value))}
	if gone {
		b[2] = 1
	}
	return append(append(b, rest...), value...)
}

// plainBlocks is a list in blocks, as many entries in each as fit.
func plainBlocks(l []api.Entry, block int) []laid {
	var blocks []laid
	ahead := ""
	for i, x := range l {
		last := len(blocks) - 1
		if i == 0 || len(blocks[last].entries)+len(plainEntry(ahead, x)) > block {
			blocks = append(blocks, laid{first: x.Key})
			last, ahead = last+1, ""
		}
		blocks[last].entries = append(blocks[last].entries, plainEntry(ahead, x)...)
		ahead = x.Key
	}
	at := 0
	for i := range blocks {
		blocks[i].from, blocks[i].size = at, len(blocks[i].entries)
		at += blocks[i].size + 4
	}
	return blocks
}

// foot is what stands in a run's foot, but for the check sum and the letters.
type foot struct {
	block, entries, blocks, at int
}

// assembled is a run of these blocks and this foot, with right check sums, whether it may be or not.
func assembled(blocks []laid, f foot) []byte {
	var b, tail []byte
	for _, x := range blocks {
		b = append(append(b, x.entries...), sum(x.entries)...)
		tail = binary.AppendUvarint(tail, uint64(len(x.first)))
		tail = append(tail, x.first...)
		tail = binary.AppendUvarint(tail, uint64(x.from))
		tail = binary.AppendUvarint(tail, uint64(x.size))
	}
	for _, n := range []int{f.block, f.entries, f.blocks, f.at} {
		tail = binary.BigEndian.AppendUint32(tail, uint32(n))
	}
	return append(append(append(b, tail...), sum(tail)...), "DRUN"...)
}

// plainFoot is the foot of a list's run.
func plainFoot(l []api.Entry, block int) foot {
	f := foot{block: block, entries: len(l)}
	for _, x := range plainBlocks(l, block) {
		f.blocks++
		f.at += len(x.entries) + 4
	}
	return f
}

// plainBytes is a list's run, as the chapter tells it.
func plainBytes(l []api.Entry, block int) []byte {
	return assembled(plainBlocks(l, block), plainFoot(l, block))
}

// someText is a text by chance, of low to high bytes; of few letters, so that they meet.
func someText(r *rand.Rand, low, high int) string {
	letters := "ab\x00\xff"
	b := make([]byte, low+r.Intn(high-low+1))
	for i := range b {
		b[i] = letters[r.Intn(len(letters))]
	}
	return string(b)
}

// someList is a list that may be a run's, by chance, of about so many entries.
func someList(r *rand.Rand, n int) []api.Entry {
	longKey, longValue := 1+r.Intn(64), r.Intn(65)
	var keys []string
	for range n {
		keys = append(keys, someText(r, 1, longKey))
	}
	slices.Sort(keys)
	var l []api.Entry
	for _, key := range slices.Compact(keys) {
		x := api.Entry{Key: key, Gone: r.Intn(4) == 0}
		if !x.Gone {
			x.Value = someText(r, 0, longValue)
		}
		l = append(l, x)
	}
	return l
}

// mustRun is the run of a list.
func mustRun(t *testing.T, l []api.Entry, block int) *run.Run {
	t.Helper()
	b, e := run.Build(l, block)
	if e != api.OK {
		t.Fatal("Build", e)
	}
	r, e := run.Open(b)
	if e != api.OK || r == nil {
		t.Fatal("Open", e)
	}
	return r
}
