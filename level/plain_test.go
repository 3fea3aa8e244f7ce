package level_test

import (
	"bytes"
	"encoding/binary"
	"hash/crc32"
	"maps"
	"math/rand"
	"slices"
	"strings"
	"testing"

	"dedup/api"
	"dedup/level"
	"dedup/run"
)

// long is a text of n bytes.
func long(n int) string {
	return strings.Repeat("x", n)
}

// sum is a check sum; the library's.
func sum(b []byte) uint32 {
	return crc32.Checksum(b, crc32.MakeTable(crc32.Castagnoli))
}

// framed is a frame by layer 2's words.
func framed(kind byte, body []byte) []byte {
	b := binary.BigEndian.AppendUint32([]byte{'D', 'F', kind, 0}, uint32(len(body)))
	b = append(b, body...)
	return binary.BigEndian.AppendUint32(b, sum(b))
}

// plain is levels by the chapter's words: entries in memory, and of each level the lists of its runs, the newest first; and what Get should tell, as a map.
type plain struct {
	c      api.Tiers
	mem    map[string]api.Entry
	levels [16][][]api.Entry
	truth  map[string]string
}

func newPlain(c api.Tiers) *plain {
	return &plain{c: c, mem: map[string]api.Entry{}, truth: map[string]string{}}
}

func (p *plain) fork() *plain {
	q := *p
	q.mem, q.truth = maps.Clone(p.mem), maps.Clone(p.truth)
	for n := range q.levels {
		q.levels[n] = slices.Clone(p.levels[n])
	}
	return &q
}

func (p *plain) put(key, value string) {
	p.truth[key] = value
	p.keep(api.Entry{Key: key, Value: value})
}

func (p *plain) delete(key string) {
	delete(p.truth, key)
	p.keep(api.Entry{Key: key, Gone: true})
}

func (p *plain) keep(x api.Entry) {
	p.mem[x.Key] = x
	if len(p.mem) == p.c.Top {
		p.flush()
	}
}

// sorted is entries by their keys.
func sorted(m map[string]api.Entry) []api.Entry {
	var l []api.Entry
	for _, key := range slices.Sorted(maps.Keys(m)) {
		l = append(l, m[key])
	}
	return l
}

func (p *plain) flush() bool {
	if len(p.mem) == 0 {
		return false
	}
	p.levels[0] = slices.Insert(slices.Clone(p.levels[0]), 0, sorted(p.mem))
	p.mem = map[string]api.Entry{}
	return true
}

func (p *plain) step() bool {
	for n, runs := range p.levels {
		if len(runs) < p.c.Fan {
			continue
		}
		drop := true
		for _, behind := range p.levels[n+1:] {
			drop = drop && len(behind) == 0
		}
		merged := map[string]api.Entry{}
		for _, l := range slices.Backward(runs) {
			for _, x := range l {
				merged[x.Key] = x
			}
		}
		if drop {
			maps.DeleteFunc(merged, func(_ string, x api.Entry) bool { return x.Gone })
		}
		p.levels[n] = nil
		if to := min(n+1, 15); len(merged) > 0 {
			p.levels[to] = slices.Insert(slices.Clone(p.levels[to]), 0, sorted(merged))
		}
		return true
	}
	return false
}

func (p *plain) runs() []int {
	var l []int
	for _, runs := range p.levels {
		l = append(l, len(runs))
	}
	for len(l) > 0 && l[len(l)-1] == 0 {
		l = l[:len(l)-1]
	}
	return l
}

func (p *plain) files() [][]byte {
	var l [][]byte
	for _, runs := range p.levels {
		for _, entries := range runs {
			b, _ := run.Build(entries, p.c.Block)
			l = append(l, b)
		}
	}
	return l
}

func (p *plain) manifest() []byte {
	return framed(77, manifestBody(p.c, p.runs(), p.files()))
}

// varints is numbers by layer 2's words.
func varints(numbers ...int) []byte {
	var b []byte
	for _, n := range numbers {
		b = binary.AppendUvarint(b, uint64(n))
	}
	return b
}

// manifestBody is a manifest's body that says these numbers, and these files in levels of so many each.
func manifestBody(c api.Tiers, counts []int, files [][]byte) []byte {
	b := varints(c.Block, c.Fan, c.Top, len(counts))
	for _, count := range counts {
		b = append(b, varints(count)...)
		for _, file := range files[:count] {
			b = append(b, varints(len(file), int(sum(file)))...)
		}
		files = files[count:]
	}
	return b
}

// told is all that a scan goes over.
func told(l *level.Levels, from, to string) []api.Pair {
	var pairs []api.Pair
	for k, v := range l.Scan(from, to) {
		pairs = append(pairs, api.Pair{Key: k, Value: v})
	}
	return pairs
}

// inTruth is what a scan should go over.
func inTruth(truth map[string]string, from, to string) []api.Pair {
	var pairs []api.Pair
	for _, key := range slices.Sorted(maps.Keys(truth)) {
		if key >= from && (to == "" || key < to) {
			pairs = append(pairs, api.Pair{Key: key, Value: truth[key]})
		}
	}
	return pairs
}

// wantTruth holds what Get and Scan tell against a map (P14.7).
func wantTruth(t *testing.T, what string, l *level.Levels, truth map[string]string) {
	t.Helper()
	if got, want := told(l, "", ""), inTruth(truth, "", ""); !slices.Equal(got, want) {
		t.Fatalf("%s: Scan %v, want %v", what, got, want)
	}
	for key, want := range truth {
		if v, is := l.Get(key); !is || v != want {
			t.Fatalf("%s: Get(%q): %q, %v, want %q", what, key, v, is, want)
		}
	}
}

// wantSame holds all that is told of levels against the plain ones.
func wantSame(t *testing.T, what string, l *level.Levels, p *plain) {
	t.Helper()
	if !slices.Equal(l.Runs(), p.runs()) {
		t.Fatalf("%s: Runs %v, want %v", what, l.Runs(), p.runs())
	}
	if !slices.EqualFunc(l.Files(), p.files(), bytes.Equal) || !bytes.Equal(l.Manifest(), p.manifest()) {
		t.Fatal(what, "other files, or another manifest")
	}
	wantTruth(t, what, l, p.truth)
}

// someKey is a key by chance, of few letters, so that they meet.
func someKey(r *rand.Rand) string {
	letters := "ab\x00\xff"
	b := make([]byte, 1+r.Intn(4))
	for i := range b {
		b[i] = letters[r.Intn(len(letters))]
	}
	if r.Intn(30) == 0 {
		return string(b) + long(60)
	}
	return string(b)
}

// someTiers is numbers that may be.
func someTiers(r *rand.Rand) api.Tiers {
	return api.Tiers{Block: []int{256, 300, 4096}[r.Intn(3)], Fan: 2 + r.Intn(3), Top: 1 + r.Intn(8)}
}

// mustNew is levels that are not refused.
func mustNew(t *testing.T, c api.Tiers) *level.Levels {
	t.Helper()
	l, e := level.New(c)
	if e != api.OK || l == nil {
		t.Fatal("New", c, e)
	}
	return l
}

// mustPut puts keys and values that are not refused.
func mustPut(t *testing.T, l *level.Levels, pairs ...string) {
	t.Helper()
	for i := 0; i < len(pairs); i += 2 {
		if e := l.Put(pairs[i], pairs[i+1]); e != api.OK {
			t.Fatal("Put", pairs[i], e)
		}
	}
}

// mustDelete lets keys be gone.
func mustDelete(t *testing.T, l *level.Levels, keys ...string) {
	t.Helper()
	for _, key := range keys {
		if e := l.Delete(key); e != api.OK {
			t.Fatal("Delete", key, e)
		}
	}
}

// mustLoad is the levels of a manifest and files that are not refused.
func mustLoad(t *testing.T, c api.Tiers, manifest []byte, files [][]byte) *level.Levels {
	t.Helper()
	l, e := level.Load(c, manifest, files)
	if e != api.OK || l == nil {
		t.Fatal("Load", e)
	}
	return l
}

// mustBuild is a run's bytes.
func mustBuild(t *testing.T, block int, entries ...api.Entry) []byte {
	t.Helper()
	b, e := run.Build(entries, block)
	if e != api.OK {
		t.Fatal("Build", e)
	}
	return b
}

// wantRuns holds how many runs each level has.
func wantRuns(t *testing.T, what string, l *level.Levels, want ...int) {
	t.Helper()
	if got := l.Runs(); !slices.Equal(got, want) {
		t.Errorf("%s: Runs %v, want %v", what, got, want)
	}
}

// both is levels and the plain ones that they should be.
type both struct {
	l *level.Levels
	p *plain
}

// act does something by chance to both: the levels that take their place, and another pair, if there is one.
func (x *both) act(t *testing.T, r *rand.Rand) *both {
	t.Helper()
	key := someKey(r)
	switch r.Intn(40) {
	case 0, 1, 2:
		if got, want := x.l.Flush(), x.p.flush(); got != want {
			t.Fatal("Flush", got)
		}
	case 3, 4, 5, 6, 7:
		if got, want := x.l.Step(), x.p.step(); got != want {
			t.Fatal("Step", got)
		}
	case 8:
		return &both{x.l.Fork(), x.p.fork()}
	case 9:
		x.l.Flush()
		x.p.flush()
		x.l = mustLoad(t, x.p.c, x.l.Manifest(), x.l.Files())
	case 10, 11, 12, 13, 14, 15, 16, 17, 18:
		mustDelete(t, x.l, key)
		x.p.delete(key)
	default:
		value := long(r.Intn(65))
		mustPut(t, x.l, key, value)
		x.p.put(key, value)
	}
	return nil
}

// TestAsPlain: P14.1 to P14.5, P14.7: whatever is put, deleted, laid down, compacted, loaded again, and of whichever fork, all is told as by the plain ones.
func TestAsPlain(t *testing.T) {
	r := rand.New(rand.NewSource(14))
	for range 60 {
		c := someTiers(r)
		all := []*both{{mustNew(t, c), newPlain(c)}}
		for range 250 {
			x := all[r.Intn(len(all))]
			if other := x.act(t, r); other != nil && len(all) < 5 {
				all = append(all, other)
			}
			wantSame(t, "one", x.l, x.p)
			from, to := someKey(r), someKey(r)
			if got, want := told(x.l, from, to), inTruth(x.p.truth, from, to); !slices.Equal(got, want) {
				t.Fatalf("Scan(%q, %q): %v, want %v", from, to, got, want)
			}
			value, is := x.p.truth[from]
			if v, got := x.l.Get(from); v != value || got != is {
				t.Fatalf("Get(%q): %q, %v", from, v, got)
			}
		}
		for _, x := range all {
			wantSame(t, "all", x.l, x.p)
		}
	}
}
