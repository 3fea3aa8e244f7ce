package run_test

import (
	"bytes"
	"fmt"
	"math"
	"math/rand"
	"slices"
	"testing"

	"dedup/api"
	"dedup/run"
)

// refused is lists that may not be a run's.
func refused() map[string][]api.Entry {
	return map[string][]api.Entry{
		"an empty key":           {{Value: "1"}},
		"an empty key, gone":     {{Gone: true}},
		"a key of 65":            {{Key: long(65)}},
		"a key of 256 and 1":     {{Key: long(257)}},
		"a value of 65":          {{Key: "a", Value: long(65)}},
		"a value of 256":         {{Key: "a", Value: long(256)}},
		"gone with a value":      {{Key: "a", Value: "1", Gone: true}},
		"keys that fall":         {{Key: "b"}, {Key: "a"}},
		"a key twice":            {{Key: "a", Value: "1"}, {Key: "a", Value: "2"}},
		"a key twice, once gone": {{Key: "a", Value: "1"}, {Key: "a", Gone: true}},
		"a beginning behind":     {{Key: "ab"}, {Key: "a"}},
		"high bytes ahead":       {{Key: "\xff"}, {Key: "\x7f"}},
		"the last one":           {{Key: "a"}, {Key: "b"}, {Key: "c"}, {Key: "d", Value: "1", Gone: true}},
	}
}

// taken is lists that may be a run's.
func taken() [][]api.Entry {
	return [][]api.Entry{
		nil, {}, {{Key: "a"}}, {{Key: "a", Gone: true}}, {{Key: "\x00"}},
		{{Key: long(64), Value: long(64)}}, {{Key: long(64), Gone: true}},
		{{Key: "a", Value: "1"}, {Key: "a\x00", Value: "2"}, {Key: "ab", Gone: true}, {Key: "b"}, {Key: "\x7f"}, {Key: "\x80"}, {Key: "\xff"}},
	}
}

// TestCheck: P12.1, the words: which lists may be a run's.
func TestCheck(t *testing.T) {
	for what, l := range refused() {
		if e := run.Check(l); e != api.ErrItem {
			t.Error(what, e)
		}
	}
	for _, l := range taken() {
		if e := run.Check(l); e != api.OK {
			t.Error(l, e)
		}
	}
}

// TestBuild: P12.2: letter by letter.
func TestBuild(t *testing.T) {
	l := []api.Entry{{Key: "ab", Value: "1"}, {Key: "abc", Value: "2"}}
	entries := []byte("\x00\x02\x00\x01ab1\x02\x01\x00\x01c2")
	tail := []byte("\x02ab\x00\x0d" + "\x00\x00\x01\x00" + "\x00\x00\x00\x02" + "\x00\x00\x00\x01" + "\x00\x00\x00\x11")
	want := slices.Concat(entries, sum(entries), tail, sum(tail), []byte("DRUN"))
	if b, e := run.Build(l, 256); e != api.OK || !bytes.Equal(b, want) {
		t.Errorf("the example: %q, error %d, want %q", b, e, want)
	}
	l = []api.Entry{{Key: "a", Gone: true}, {Key: "b", Value: ""}}
	entries = []byte("\x00\x01\x01\x00a\x00\x01\x00\x00b")
	tail = []byte("\x01a\x00\x0a" + "\x00\x00\x10\x00" + "\x00\x00\x00\x02" + "\x00\x00\x00\x01" + "\x00\x00\x00\x0e")
	want = slices.Concat(entries, sum(entries), tail, sum(tail), []byte("DRUN"))
	if b, e := run.Build(l, 4096); e != api.OK || !bytes.Equal(b, want) {
		t.Errorf("one that is gone: %q, error %d, want %q", b, e, want)
	}
	tail = []byte("\x00\x00\x01\x2c" + "\x00\x00\x00\x00" + "\x00\x00\x00\x00" + "\x00\x00\x00\x00")
	want = slices.Concat(tail, sum(tail), []byte("DRUN"))
	if b, e := run.Build(nil, 300); e != api.OK || !bytes.Equal(b, want) {
		t.Errorf("no entries: %q, error %d, want %q", b, e, want)
	}
}

// TestBuildRefused: P12.2: a block that may not be is told ahead of a list that may not be.
func TestBuildRefused(t *testing.T) {
	refuse := func(l []api.Entry, block int, want api.Errno) {
		t.Helper()
		if b, e := run.Build(l, block); e != want || len(b) != 0 {
			t.Errorf("Build(%v, %d): %d bytes, error %d, want %d", l, block, len(b), e, want)
		}
	}
	for _, block := range []int{0, 1, -1, 255, 4097, -256, 1<<32 + 256, math.MaxInt, math.MinInt} {
		for _, l := range taken() {
			refuse(l, block, api.ErrArg)
		}
		for _, l := range refused() {
			refuse(l, block, api.ErrArg)
		}
	}
	for _, block := range []int{256, 257, 1000, 4095, 4096} {
		for _, l := range refused() {
			refuse(l, block, api.ErrItem)
		}
		for _, l := range taken() {
			if b, e := run.Build(l, block); e != api.OK || !bytes.Equal(b, plainBytes(l, block)) {
				t.Error("Build", l, block, e)
			}
		}
	}
}

// TestBlocks: P12.2, the words: as many entries in a block as fit, to the byte; what is shared with the key ahead is what it shares in its block.
func TestBlocks(t *testing.T) {
	for _, c := range []struct {
		last   int // bytes of the third entry's value
		blocks int
	}{{63, 1}, {64, 2}} { // 2 * 69 + 4 + 1 + 63 + 50 = 256
		l := []api.Entry{
			{Key: "a", Value: long(64)},
			{Key: "b", Value: long(64)},
			{Key: "c", Value: long(c.last)},
			{Key: "cd", Value: long(45)},
		}
		r := mustRun(t, l, 256)
		if r.Blocks() != c.blocks || r.Len() != 4 || !bytes.Equal(r.Bytes(), plainBytes(l, 256)) {
			t.Error("a value of", c.last, "blocks:", r.Blocks())
		}
		if x, is := r.Get("cd"); !is || x != l[3] {
			t.Error("Get", x, is)
		}
	}
	var l []api.Entry
	for i := range 1000 {
		l = append(l, api.Entry{Key: fmt.Sprintf("%s%04d", long(60), i), Value: long(i % 65)})
	}
	for _, block := range []int{256, 300, 1024, 4096} {
		r := mustRun(t, l, block)
		if r.Blocks() != len(plainBlocks(l, block)) || r.Len() != 1000 || !bytes.Equal(r.Bytes(), plainBytes(l, block)) {
			t.Error("blocks of", block, r.Blocks())
		}
	}
}

// wantNoRun tells whether bytes are refused.
func wantNoRun(t *testing.T, what string, b []byte) {
	t.Helper()
	if r, e := run.Open(b); e != api.ErrRun || r != nil {
		t.Errorf("%s: a run: %v, error %d", what, r != nil, e)
	}
}

// twoEntries is a list of one block.
func twoEntries() []api.Entry {
	return []api.Entry{{Key: "ab", Value: "1"}, {Key: "abc", Value: "2"}}
}

// longFour is a list of two blocks of 256 bytes.
func longFour() []api.Entry {
	return []api.Entry{{Key: "a", Value: long(64)}, {Key: "b", Value: long(64)}, {Key: "c", Value: long(64)}, {Key: "d", Value: long(64)}}
}

// wantNoRunOf tells whether a list's run is refused, when its blocks or its foot are changed.
func wantNoRunOf(t *testing.T, what string, l []api.Entry, change func(blocks []laid, f *foot) []laid) {
	t.Helper()
	blocks, f := plainBlocks(l, 256), plainFoot(l, 256)
	b := assembled(change(blocks, &f), f)
	if bytes.Equal(b, plainBytes(l, 256)) {
		t.Error(what, "is nothing else")
	}
	wantNoRun(t, what, b)
}

// TestFootRefused: P12.2: feet that Build tells of no list and block, though the check sums are right.
func TestFootRefused(t *testing.T) {
	for what, change := range map[string]func(f *foot){
		"a block of 255":       func(f *foot) { f.block = 255 },
		"a block of 0":         func(f *foot) { f.block = 0 },
		"a block of 4097":      func(f *foot) { f.block = 4097 },
		"a block of 2^32 - 1":  func(f *foot) { f.block = math.MaxUint32 },
		"an entry more":        func(f *foot) { f.entries++ },
		"an entry fewer":       func(f *foot) { f.entries-- },
		"a block more":         func(f *foot) { f.blocks++ },
		"a block fewer":        func(f *foot) { f.blocks-- },
		"2^32 - 1 blocks":      func(f *foot) { f.blocks = math.MaxUint32 },
		"an index later":       func(f *foot) { f.at++ },
		"an index earlier":     func(f *foot) { f.at-- },
		"an index far behind":  func(f *foot) { f.at = math.MaxUint32 },
		"an index in the foot": func(f *foot) { f.at += 24 },
	} {
		for _, l := range [][]api.Entry{nil, twoEntries(), longFour()} {
			wantNoRunOf(t, what, l, func(blocks []laid, f *foot) []laid {
				change(f)
				return blocks
			})
		}
	}
	wantNoRunOf(t, "a greater block", longFour(), func(b []laid, f *foot) []laid { f.block = 400; return b })
}

// TestIndexRefused: P12.2: indexes that Build tells of no list and block.
func TestIndexRefused(t *testing.T) {
	two, four := twoEntries(), longFour()
	wantNoRunOf(t, "another first key", two, func(b []laid, f *foot) []laid { b[0].first = "aa"; return b })
	wantNoRunOf(t, "another beginning", four, func(b []laid, f *foot) []laid { b[1].from++; return b })
	wantNoRunOf(t, "a beginning of another block", four, func(b []laid, f *foot) []laid { b[1].from = 0; return b })
	wantNoRunOf(t, "a byte too few", two, func(b []laid, f *foot) []laid { b[0].size--; return b })
	wantNoRunOf(t, "a byte too many", two, func(b []laid, f *foot) []laid { b[0].size++; return b })
	wantNoRunOf(t, "bytes of 2^63", two, func(b []laid, f *foot) []laid { b[0].size = math.MinInt; return b })
	wantNoRunOf(t, "bytes of 2^64 - 1", two, func(b []laid, f *foot) []laid { b[0].size = -1; return b })
	wantNoRunOf(t, "a block twice", two, func(b []laid, f *foot) []laid { f.blocks, f.entries = 2, 4; return append(b, b...) })
	wantNoRunOf(t, "an empty block", two, func(b []laid, f *foot) []laid {
		f.blocks, f.at = 2, f.at+4
		return append(b, laid{first: "b", from: 17})
	})
	wantNoRunOf(t, "an empty block alone", nil, func(b []laid, f *foot) []laid {
		f.blocks, f.at = 1, 4
		return append(b, laid{first: "b"})
	})
	unsummed := slices.Concat(entry(0, "ab", false, "1"), entry(2, "c", false, "2"))
	for _, size := range []int{0, 1, 4, 100, 1 << 40, math.MinInt} { // the second block's, which begins behind the index's beginning
		none := assembled([]laid{{nil, "ab", 0, 13}, {nil, "b", 17, size}}, foot{256, 2, 2, 13})
		wantNoRun(t, "no room for a check sum", append(slices.Clone(unsummed), none[8:]...))
	}
}

// TestEntriesRefused: P12.2: entries that Build lays so of no list.
func TestEntriesRefused(t *testing.T) {
	for what, entries := range map[string][]byte{
		"less shared than there is":   slices.Concat(entry(0, "ab", false, "1"), entry(1, "bc", false, "2")),
		"more shared than there is":   slices.Concat(entry(0, "ab", false, "1"), entry(3, "c", false, "2")),
		"shared ahead of the first":   entry(1, "b", false, "1"),
		"a key that falls":            slices.Concat(entry(0, "ab", false, "1"), entry(1, "a", false, "2")),
		"a key twice":                 slices.Concat(entry(0, "ab", false, "1"), entry(2, "", false, "2")),
		"an empty key":                entry(0, "", false, "1"),
		"a key of 65":                 entry(0, long(65), false, "1"),
		"a key of 65, shared":         slices.Concat(entry(0, long(60), false, "1"), entry(60, long(5), false, "2")),
		"a value of 65":               entry(0, "a", false, long(65)),
		"gone with a value":           entry(0, "a", true, "1"),
		"neither gone nor not":        []byte("\x00\x01\x02\x00a"),
		"neither gone nor not, 255":   []byte("\x00\x01\xff\x00a"),
		"no letters":                  []byte("\x00\x01\x00\x00"),
		"an end in the lengths":       []byte("\x00\x01\x00"),
		"an end in the value":         []byte("\x00\x01\x00\x02a1"),
		"a byte behind":               []byte("\x00\x01\x00\x01a1\x00"),
		"no entries":                  nil,
		"more than a block's of 4096": bytes.Repeat([]byte{0}, 5000),
	} {
		for _, first := range []string{"a", "ab", "b", "", long(60), long(65)} {
			n := 1 + bytes.Count(entries, []byte("2"))
			wantNoRun(t, what, assembled([]laid{{entries: entries, first: first, size: len(entries)}}, foot{256, n, 1, len(entries) + 4}))
		}
	}
	early := []laid{{entry(0, "a", false, long(64)), "a", 0, 69}, {slices.Concat(entry(0, "b", false, long(64)), entry(0, "c", false, long(64)), entry(0, "d", false, long(64))), "b", 73, 207}}
	wantNoRun(t, "a block that ends early", assembled(early, foot{256, 4, 2, 284}))
	whole := []laid{{slices.Concat(early[0].entries, early[1].entries), "a", 0, 276}}
	wantNoRun(t, "a block of 276", assembled(whole, foot{256, 4, 1, 280}))
	wantNoRun(t, "a block of 276, of 275", assembled(whole, foot{275, 4, 1, 280}))
	if r, e := run.Open(assembled(whole, foot{276, 4, 1, 280})); e != api.OK || r.Blocks() != 1 || r.Len() != 4 {
		t.Error("a block of 276, of 276:", e)
	}
}

// TestOpenBytes: P12.2: bytes of any kind: cut off, longer, with a bit turned anywhere.
func TestOpenBytes(t *testing.T) {
	r := rand.New(rand.NewSource(122))
	wantNoRun(t, "nil", nil)
	wantNoRun(t, "zeros", make([]byte, 24))
	wantNoRun(t, "letters", []byte("DRUN"))
	for _, l := range [][]api.Entry{nil, {{Key: "a"}}, someList(r, 10), someList(r, 40)} {
		b := plainBytes(l, 256)
		for n := range b {
			wantNoRun(t, "cut off", b[:n])
			wantNoRun(t, "without its beginning", b[n+1:])
		}
		wantNoRun(t, "a byte behind", append(slices.Clone(b), 0))
		wantNoRun(t, "a byte ahead", append([]byte{0}, b...))
		wantNoRun(t, "twice", append(slices.Clone(b), b...))
		for bit := range 8 * len(b) {
			b[bit/8] ^= 1 << (bit % 8)
			wantNoRun(t, fmt.Sprint("bit ", bit), b)
			b[bit/8] ^= 1 << (bit % 8)
		}
		if _, e := run.Open(b); e != api.OK {
			t.Error("Open", e)
		}
	}
	for range 2000 {
		b := make([]byte, r.Intn(100))
		r.Read(b)
		wantNoRun(t, "noise", b)
		wantNoRun(t, "noise", append(b, "DRUN"...))
	}
}

// TestChangedBytes: P12.2, P12.6: of entries, index and foot that were changed anyhow, and summed again, Open takes just those that Build of what it tells is.
func TestChangedBytes(t *testing.T) {
	r := rand.New(rand.NewSource(123))
	took, refused := 0, 0
	for range 60000 {
		l := someList(r, 1+r.Intn(8))
		blocks, f := plainBlocks(l, 256), plainFoot(l, 256)
		x := &blocks[r.Intn(len(blocks))]
		if r.Intn(3) > 0 {
			x.entries[r.Intn(len(x.entries))] = byte(r.Intn(4))
		} else {
			x.entries[r.Intn(len(x.entries))] ^= 1 << r.Intn(8)
		}
		if r.Intn(2) == 0 && len(x.entries) > 5 && x.entries[1] > 0 {
			x.first = string(x.entries[4:min(len(x.entries), 4+int(x.entries[1]))])
		}
		b := assembled(blocks, f)
		got, e := run.Open(b)
		if e != api.OK {
			refused++
			wantNoRun(t, "changed", b)
			continue
		}
		took++
		all := slices.Collect(got.Scan("", ""))
		if run.Check(all) != api.OK || !bytes.Equal(plainBytes(all, 256), b) || got.Len() != len(all) {
			t.Fatalf("Open of %x: %v", b, all)
		}
	}
	if took < 1000 || refused < 1000 {
		t.Error("took", took, "refused", refused)
	}
}

// plainScan is what a scan of a list goes over.
func plainScan(l []api.Entry, from, to string) []api.Entry {
	var some []api.Entry
	for _, x := range l {
		if x.Key >= from && (to == "" || x.Key < to) {
			some = append(some, x)
		}
	}
	return some
}

// TestRead: P12.3, P12.6, P12.7: there and back; Get and Scan of all keys and of others.
func TestRead(t *testing.T) {
	r := rand.New(rand.NewSource(124))
	lists := taken()
	for range 150 {
		lists = append(lists, someList(r, r.Intn(60)))
	}
	for _, l := range lists {
		block := 256 + r.Intn(200)
		x := mustRun(t, l, block)
		if x.Len() != len(l) || x.Blocks() != len(plainBlocks(l, block)) || !bytes.Equal(x.Bytes(), plainBytes(l, block)) {
			t.Fatal("Len", x.Len(), "Blocks", x.Blocks())
		}
		bounds := []string{"", "\x00", "a", "\xff\xff", long(70), long(300)}
		for _, y := range l {
			bounds = append(bounds, y.Key, y.Key+"\x00", y.Key[:len(y.Key)-1])
		}
		for _, key := range bounds {
			i := slices.IndexFunc(l, func(y api.Entry) bool { return y.Key == key })
			got, is := x.Get(key)
			if is != (i >= 0) || is && got != l[i] || !is && got != (api.Entry{}) {
				t.Fatalf("Get(%q): %v, %v", key, got, is)
			}
			for _, to := range []string{"", bounds[r.Intn(len(bounds))], bounds[r.Intn(len(bounds))], key, key + "\x00"} {
				if got := slices.Collect(x.Scan(key, to)); !slices.Equal(got, plainScan(l, key, to)) {
					t.Fatalf("Scan(%q, %q): %v", key, to, got)
				}
			}
		}
		b, e := run.Build(slices.Collect(x.Scan("", "")), block)
		if e != api.OK || !bytes.Equal(b, x.Bytes()) {
			t.Fatal("Build of what Scan tells", e)
		}
	}
}

// TestScanStops: R5: a scan may be stopped, and begins anew.
func TestScanStops(t *testing.T) {
	l := someList(rand.New(rand.NewSource(125)), 60)
	scan := mustRun(t, l, 256).Scan("", "")
	for stop := 1; stop <= len(l); stop++ {
		n := 0
		for x := range scan {
			if x != l[n] {
				t.Fatal("Scan", n, x)
			}
			if n++; n == stop {
				break
			}
		}
		if n != stop {
			t.Error("stopped", n, stop)
		}
	}
}

// TestTurnedBits: P12.9: up to 32 neighbouring bits of a block's entries, at each place.
func TestTurnedBits(t *testing.T) {
	r := rand.New(rand.NewSource(129))
	l := []api.Entry{{Key: "ab", Value: "1"}, {Key: "abc", Value: "2"}, {Key: "b", Gone: true}, {Key: "c", Value: long(64)}, {Key: "cc", Value: long(64)}, {Key: "d", Value: long(64)}, {Key: "dd", Value: long(64)}}
	b := plainBytes(l, 256)
	for _, x := range plainBlocks(l, 256) {
		for bit := 8 * x.from; bit < 8*(x.from+x.size); bit++ {
			room := min(32, 8*(x.from+x.size)-bit)
			for range 12 {
				span := 1 + r.Intn(room)
				mask := uint64(1)<<(span-1) | 1 | r.Uint64()&(1<<span-1)
				turned := slices.Clone(b)
				for i := range span {
					turned[(bit+i)/8] ^= byte(mask>>i&1) << ((bit + i) % 8)
				}
				wantNoRun(t, fmt.Sprint(span, " bits from ", bit), turned)
			}
		}
	}
}

// TestShared: R3: what is handed in stays, and is not kept; what is answered is new memory.
func TestShared(t *testing.T) {
	l := []api.Entry{{Key: "a", Value: "1"}, {Key: "b", Gone: true}, {Key: "behind"}}
	b, _ := run.Build(l[:2], 256)
	if !slices.Equal(l, []api.Entry{{Key: "a", Value: "1"}, {Key: "b", Gone: true}, {Key: "behind"}}) {
		t.Error("Build changed", l)
	}
	want := slices.Clone(b)
	room := append(slices.Clone(b), 7)
	r, e := run.Open(room[:len(b)])
	if e != api.OK || !bytes.Equal(room, append(slices.Clone(want), 7)) {
		t.Fatal("Open", e)
	}
	clear(room)
	clear(l)
	got := r.Bytes()
	clear(got[:cap(got)])
	if !bytes.Equal(r.Bytes(), want) || !bytes.Equal(b, want) {
		t.Error("a run changed")
	}
	runs := []*run.Run{r, r, nil}
	merged := run.Merge(runs[:2], false)
	clear(merged[:cap(merged)])
	if x, is := r.Get("a"); !is || x.Value != "1" || runs[0] != r || runs[1] != r || runs[2] != nil {
		t.Error("Merge changed", x)
	}
}
