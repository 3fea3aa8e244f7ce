package level

import (
	"bytes"
	"slices"

	"dedup/api"
	"dedup/codec"
	"dedup/run"
)

// manifestKind is the kind of a manifest's frame.
const manifestKind = 77

// Manifest is which runs there are, as bytes.
func (l *Levels) Manifest() []byte {
	if !l.made() {
		return nil
	}
	counts := l.Runs()
	w := codec.NewWriter(api.MaxFrame)
	for _, n := range []int{l.tiers.Block, l.tiers.Fan, l.tiers.Top, len(counts)} {
		w.Varint(uint64(n))
	}
	for n, count := range counts {
		w.Varint(uint64(count))
		for r := range l.newest(n) {
			b := string(r.Bytes())
			w.Varint(uint64(len(b)))
			w.Varint(uint64(codec.Crc(b)))
		}
	}
	body, e := w.Done()
	if e != api.OK {
		return nil
	}
	frame, _ := codec.Frame(manifestKind, body)
	return []byte(frame)
}

// Files is the runs' bytes, in the manifest's order.
func (l *Levels) Files() [][]byte {
	if !l.made() {
		return nil
	}
	var files [][]byte
	for r := range l.all() {
		files = append(files, r.Bytes())
	}
	return files
}

// Load is levels as a manifest and runs say.
func Load(c api.Tiers, manifest []byte, files [][]byte) (*Levels, api.Errno) {
	l, e := New(c)
	if e != api.OK {
		return nil, e
	}
	// What is written again tells of all at once: the frame, the numbers, how many levels, the lengths, the check sums.
	if !l.place(manifest, files) || !bytes.Equal(l.Manifest(), manifest) {
		return nil, api.ErrManifest
	}
	return l, api.OK
}

// place opens the files in the levels in which a manifest says that they are, and tells whether they are runs, just as many as it says.
func (l *Levels) place(manifest []byte, files [][]byte) bool {
	counts, ok := countsOf(manifest)
	if !ok {
		return false
	}
	rest := files
	for n, count := range counts {
		if count > uint64(len(rest)) {
			return false
		}
		for _, file := range slices.Backward(rest[:count]) {
			r, ok := openRun(file, l.tiers.Block)
			if !ok {
				return false
			}
			l.runs[n] = append(l.runs[n], r)
		}
		rest = rest[count:]
	}
	return len(rest) == 0
}

// countsOf is how many runs each level has by what may be a manifest.
func countsOf(manifest []byte) ([]uint64, bool) {
	_, body, _, _ := codec.Unframe(string(manifest))
	r := codec.NewReader(body)
	r.Varint() // Block
	r.Varint() // Fan
	r.Varint() // Top
	levels := r.Varint()
	if levels > api.MaxLevels {
		return nil, false
	}
	var counts []uint64
	for range levels {
		count := r.Varint()
		for i := uint64(0); i < count && r.Err() == api.OK; i++ {
			r.Varint() // how many bytes
			r.Varint() // the check sum
		}
		counts = append(counts, count)
	}
	return counts, r.Done() == api.OK
}

// openRun is the run of blocks of so many bytes that a file is.
func openRun(file []byte, block int) (*run.Run, bool) {
	r, e := run.Open(file)
	if e != api.OK {
		return nil, false
	}
	same, _ := run.Build(run.Merge([]*run.Run{r}, false), block)
	return r, bytes.Equal(same, file)
}
