package level_test

import (
	"bytes"
	"encoding/binary"
	"math"
	"math/rand"
	"slices"
	"testing"

	"dedup/api"
	"dedup/level"
)

// wantNoLevels holds that a manifest and files are refused.
func wantNoLevels(t *testing.T, what string, c api.Tiers, manifest []byte, files [][]byte) {
	t.Helper()
	if l, e := level.Load(c, manifest, files); e != api.ErrManifest || l != nil {
		t.Errorf("%s: Load: error %d, want %d", what, e, api.ErrManifest)
	}
}

// someLevels is levels with runs in several levels, and something in memory.
func someLevels(t *testing.T, c api.Tiers) *level.Levels {
	t.Helper()
	l := mustNew(t, c)
	for i := range 7 * c.Fan * c.Top {
		mustPut(t, l, string(rune('a'+i%26)), long(i%65))
		if i%5 == 0 {
			l.Step()
		}
	}
	l.Flush()
	mustDelete(t, l, "a")
	return l
}

// TestManifestBytes: P14.3: the bytes by the chapter's words, of numbers whose varints are longer than a byte.
func TestManifestBytes(t *testing.T) {
	l := mustNew(t, api.Tiers{Block: 300, Fan: 2, Top: 200})
	want := framed(77, []byte{0xac, 2, 2, 0xc8, 1, 0})
	if !bytes.Equal(l.Manifest(), want) {
		t.Errorf("of nothing: %x, want %x", l.Manifest(), want)
	}
	mustPut(t, l, "in memory", "1")
	if !bytes.Equal(l.Manifest(), want) || len(l.Files()) != 0 {
		t.Error("what is in memory stands there")
	}
	l.Flush()
	mustPut(t, l, "a", "2")
	l.Flush()
	l.Step()
	mustPut(t, l, "b", "3")
	l.Flush()
	files := [][]byte{mustBuild(t, 300, is("b", "3")), mustBuild(t, 300, is("a", "2"), is("in memory", "1"))}
	body := varints(300, 2, 200, 2, 1, len(files[0]), int(sum(files[0])), 1, len(files[1]), int(sum(files[1])))
	if !bytes.Equal(l.Manifest(), framed(77, body)) {
		t.Errorf("of two: %x, want %x", l.Manifest(), framed(77, body))
	}
	if !slices.EqualFunc(l.Files(), files, bytes.Equal) {
		t.Error("Files")
	}
}

// TestLoad: P14.3, P14.5: of Manifest and Files behind a Flush the same levels; what was in memory is not there without one.
func TestLoad(t *testing.T) {
	r := rand.New(rand.NewSource(145))
	for range 60 {
		c := someTiers(r)
		l := someLevels(t, c)
		x := mustLoad(t, c, l.Manifest(), l.Files())
		if _, is := x.Get("a"); c.Top > 1 && !is || x.Flush() {
			t.Error("what was in memory was kept")
		}
		l.Flush()
		x = mustLoad(t, c, l.Manifest(), l.Files())
		if !slices.Equal(x.Runs(), l.Runs()) || !bytes.Equal(x.Manifest(), l.Manifest()) || !slices.EqualFunc(x.Files(), l.Files(), bytes.Equal) {
			t.Error("other levels")
		}
		if !slices.Equal(told(x, "", ""), told(l, "", "")) {
			t.Error("Scan tells others")
		}
		for l.Step() {
			x.Step()
		}
		if !bytes.Equal(x.Manifest(), l.Manifest()) {
			t.Error("other steps")
		}
	}
}

// TestLoadNumbers: P14.3: c's numbers are those of the manifest.
func TestLoadNumbers(t *testing.T) {
	c := api.Tiers{Block: 300, Fan: 3, Top: 4}
	l := someLevels(t, c)
	empty := mustNew(t, c)
	for _, n := range [][3]int{{301, 3, 4}, {256, 3, 4}, {300, 2, 4}, {300, 4, 4}, {300, 3, 3}, {300, 3, 5}} {
		other := tiers(n)
		wantNoLevels(t, "other numbers", other, l.Manifest(), l.Files())
		wantNoLevels(t, "other numbers of nothing", other, empty.Manifest(), nil)
	}
	mustLoad(t, c, empty.Manifest(), nil)
	mustLoad(t, c, empty.Manifest(), [][]byte{})
}

// TestLoadFrame: P14.3: bytes that are no frame of that kind, or with something behind it; each bit of it counts.
func TestLoadFrame(t *testing.T) {
	c := small(2, 2)
	l := someLevels(t, c)
	manifest, files := l.Manifest(), l.Files()
	body := manifest[8 : len(manifest)-4]
	mustLoad(t, c, framed(77, body), files)
	for _, kind := range []byte{0, 76, 78, 255} {
		wantNoLevels(t, "another kind", c, framed(kind, body), files)
	}
	for n := range manifest {
		wantNoLevels(t, "cut off", c, manifest[:n:n], files)
		wantNoLevels(t, "cut off", c, manifest[n+1:], files)
	}
	for n := range body {
		wantNoLevels(t, "a body that is cut off", c, framed(77, body[:n:n]), files)
	}
	for bit := range 8 * len(manifest) {
		b := slices.Clone(manifest)
		b[bit/8] ^= 1 << (bit % 8)
		wantNoLevels(t, "a bit turned", c, b, files)
	}
	wantNoLevels(t, "something behind", c, append(slices.Clone(manifest), 0), files)
	wantNoLevels(t, "twice", c, append(slices.Clone(manifest), manifest...), files)
	wantNoLevels(t, "something behind the body", c, framed(77, append(slices.Clone(body), 0)), files)
	for _, none := range [][]byte{nil, {}, []byte("DF"), long200()} {
		wantNoLevels(t, "no frame", c, none, files)
		wantNoLevels(t, "no frame, no files", c, none, nil)
	}
}

// long200 is bytes of no frame.
func long200() []byte { return bytes.Repeat([]byte("DF"), 100) }

// TestLoadBody: P14.3: frames of bodies that no levels have: levels without runs at the end, too many levels, counts that no files fill, varints that are too long.
func TestLoadBody(t *testing.T) {
	c := small(2, 2)
	file := mustBuild(t, 256, is("a", "1"))
	one := [][]byte{file}
	head := varints(256, 2, 2)
	of := append(varints(len(file)), varints(int(sum(file)))...)
	load := func(what string, files [][]byte, parts ...[]byte) {
		t.Helper()
		wantNoLevels(t, what, c, framed(77, slices.Concat(append([][]byte{head}, parts...)...)), files)
	}
	mustLoad(t, c, framed(77, slices.Concat(head, varints(1, 1), of)), one)
	mustLoad(t, c, framed(77, slices.Concat(head, varints(3, 0, 0, 1), of)), one)
	last := append(varints(16), make([]byte, 15)...)
	mustLoad(t, c, framed(77, slices.Concat(head, last, varints(1), of)), one)
	load("no levels", nil)
	load("a level without runs", nil, varints(1, 0))
	load("a level without runs at the end", one, varints(2, 1), of, varints(0))
	load("16 levels without runs", nil, varints(16), make([]byte, 16))
	load("17 levels", one, varints(17), make([]byte, 16), varints(1), of)
	for _, n := range []uint64{17, 1 << 32, 1 << 63, math.MaxUint64} {
		load("levels", nil, binary.AppendUvarint(nil, n))
		load("levels, with a file", one, binary.AppendUvarint(nil, n), varints(1), of)
		load("runs", nil, varints(1), binary.AppendUvarint(nil, n))
		load("runs, with a file", one, varints(1), binary.AppendUvarint(nil, n), of)
	}
	load("fewer runs than files", one, varints(0))
	load("more runs than files", one, varints(1, 2), of, of)
	load("one run said, two there", [][]byte{file, file}, varints(1, 1), of)
	load("numbers again", one, varints(1, 1), of, of)
	load("a varint that is too long", one, []byte{0x81, 0}, varints(1), of)
	load("its sum and 2^32", one, varints(1, 1, len(file), int(sum(file))+1<<32))
	wantNoLevels(t, "a varint of Block that is too long", c, framed(77, slices.Concat([]byte{0x80, 0x82, 0}, varints(2, 2, 1, 1), of)), one)
}

// TestLoadFiles: P14.3: files that are not as many, of other lengths or check sums, in another order, or no runs of c's Block, though the manifest says just their bytes.
func TestLoadFiles(t *testing.T) {
	c := small(2, 2)
	l := someLevels(t, c)
	manifest, files := l.Manifest(), l.Files()
	wantNoLevels(t, "none", c, manifest, nil)
	for i := range files {
		fewer := slices.Delete(slices.Clone(files), i, i+1)
		wantNoLevels(t, "one fewer", c, manifest, fewer)
		wantNoLevels(t, "one more", c, manifest, slices.Insert(slices.Clone(files), i, files[i]))
		for _, b := range [][]byte{nil, files[i][1:], append(slices.Clone(files[i]), 0), bytes.Repeat([]byte{1}, len(files[i]))} {
			other := slices.Clone(files)
			other[i] = b
			wantNoLevels(t, "another one", c, manifest, other)
			wantNoLevels(t, "no run, and the manifest says it", c, framed(77, manifestBody(c, l.Runs(), other)), other)
		}
		for bit := range 8 * len(files[i]) {
			other := slices.Clone(files)
			other[i] = slices.Clone(files[i])
			other[i][bit/8] ^= 1 << (bit % 8)
			wantNoLevels(t, "a bit turned", c, manifest, other)
			if bit%7 == 0 {
				wantNoLevels(t, "a bit turned, and the manifest says it", c, framed(77, manifestBody(c, l.Runs(), other)), other)
			}
		}
	}
	slices.Reverse(files)
	wantNoLevels(t, "another order", c, manifest, files)
}

// TestLoadBlock: P14.3: a run of another Block is refused, though it is a run and the manifest says its bytes; one without entries too.
func TestLoadBlock(t *testing.T) {
	for _, entries := range [][]api.Entry{nil, {is("a", "1")}, {is("a", "1"), gone("b"), is(long(64), long(64))}} {
		for _, block := range []int{256, 257, 4096} {
			for _, other := range []int{256, 257, 4096} {
				c := api.Tiers{Block: block, Fan: 2, Top: 1}
				files := [][]byte{mustBuild(t, other, entries...)}
				manifest := framed(77, manifestBody(c, []int{1}, files))
				if block != other {
					wantNoLevels(t, "another Block", c, manifest, files)
				} else if l := mustLoad(t, c, manifest, files); !slices.EqualFunc(l.Files(), files, bytes.Equal) {
					t.Error("other files")
				}
			}
		}
	}
}

// TestManifestTooLong: P14.3: up to 2^20 bytes of a body there is a manifest; beyond that there are no bytes; all else goes on.
func TestManifestTooLong(t *testing.T) {
	l := mustNew(t, small(2, 1))
	body := 3 + 1 + 1 // Block has two bytes; then how many levels
	runs := 0
	count := func() int { return len(varints(runs)) }
	for runs = 0; body+count() <= 1<<20; runs++ {
		key := string(binary.BigEndian.AppendUint32(nil, uint32(runs)))
		mustPut(t, l, key, "")
		file := mustBuild(t, 256, is(key, ""))
		body += len(varints(len(file), int(sum(file))))
		if runs == 1000 && len(l.Manifest()) != body+len(varints(runs+1))+12 {
			t.Fatal("Manifest", len(l.Manifest()), "want", body+len(varints(runs+1))+12)
		}
	}
	if m := l.Manifest(); len(m) != 0 || len(l.Files()) != runs {
		t.Error("a manifest that is too long:", len(m), "of", runs)
	}
	wantNoLevels(t, "none", small(2, 1), l.Manifest(), l.Files())
	l.Step()
	wantRuns(t, "behind a step", l, 0, 1)
	x := mustLoad(t, small(2, 1), l.Manifest(), l.Files())
	if _, is := x.Get("\x00\x00\x00\x05"); !is || len(told(x, "", "")) != runs {
		t.Error("behind a step")
	}
}

// TestManifestLongest: P14.3: a body of just 2^20 bytes is one still.
func TestManifestLongest(t *testing.T) {
	c := small(2, 1)
	var files [][]byte
	body := func() int { return len(manifestBody(c, []int{len(files)}, files)) }
	size := 0
	for i := uint32(0); size+3+5 <= 1<<20-40; i++ {
		file := mustBuild(t, 256, is(string(binary.BigEndian.AppendUint32(nil, i)), ""))
		files = append(files, file)
		size += len(varints(len(file), int(sum(file))))
	}
	for i := uint32(1 << 30); body() < 1<<20; i++ {
		file := mustBuild(t, 256, is(string(binary.BigEndian.AppendUint32(nil, i)), ""))
		need := 1<<20 - body()
		if n := len(varints(len(file), int(sum(file)))); n == need || n+5 <= need {
			files = append(files, file)
		}
	}
	if body() != 1<<20 {
		t.Fatal("the test's own body has", body())
	}
	manifest := framed(77, manifestBody(c, []int{len(files)}, files))
	l := mustLoad(t, c, manifest, files)
	if !bytes.Equal(l.Manifest(), manifest) {
		t.Error("Manifest", len(l.Manifest()))
	}
	mustPut(t, l, "one more", "")
	if len(l.Manifest()) != 0 {
		t.Error("one more")
	}
}

// TestShares: R3: what is told and what is handed in is shared with nothing that is kept.
func TestShares(t *testing.T) {
	c := small(2, 2)
	l := someLevels(t, c)
	l.Flush()
	manifest, files, runs := l.Manifest(), l.Files(), l.Runs()
	m, f := slices.Clone(manifest), l.Files()
	x := mustLoad(t, c, manifest, files)
	if !bytes.Equal(m, manifest) || !slices.EqualFunc(f, files, bytes.Equal) {
		t.Error("what was handed in has changed")
	}
	spoil(manifest, 0xff)
	spoil(runs, 99)
	for _, b := range files {
		spoil(b, 0xff)
	}
	spoil(files, nil)
	for _, y := range []*level.Levels{l, x} {
		if !bytes.Equal(y.Manifest(), m) || !slices.EqualFunc(y.Files(), f, bytes.Equal) {
			t.Error("what was told is shared")
		}
		mustLoad(t, c, y.Manifest(), y.Files())
	}
}

// spoil overwrites a list, and the room behind its end.
func spoil[T any](l []T, x T) {
	l = l[:cap(l)]
	for i := range l {
		l[i] = x
	}
}
