package layout_test

import (
	"math"
	"math/rand"
	"slices"
	"testing"

	"dedup/api"
	"dedup/layout"
)

// of is shape's superblock of a generation.
func of(generation uint64, root int) api.Super {
	return api.Super{Generation: generation, Root: root, Shape: shape()}
}

// wantChosen holds that Choose tells this superblock and its slot.
func wantChosen(t *testing.T, what string, size int, a, b []byte, want api.Super) {
	t.Helper()
	x, slot, e := layout.Choose(size, a, b)
	if e != api.OK || x != want || slot != int(want.Generation&1) {
		t.Error("Choose of", what, x, slot, e)
	}
}

// wantNone holds that none counts.
func wantNone(t *testing.T, what string, size int, a, b []byte) {
	t.Helper()
	if x, slot, e := layout.Choose(size, a, b); e != api.ErrSuper || x != (api.Super{}) || slot != 0 {
		t.Error("Choose of", what, x, slot, e)
	}
}

// TestChoose: P4.3, and the chapter's example: of those that count the one with the greater generation.
func TestChoose(t *testing.T) {
	zeros := make([]byte, 512)
	x4, x5, x6 := of(4, 12), of(5, 13), of(6, 14)
	b4, b5, b6 := encode(t, x4), encode(t, x5), encode(t, x6)
	wantChosen(t, "4 and 5", 512, b4, b5, x5)
	wantChosen(t, "6 and 5", 512, b6, b5, x6)
	wantChosen(t, "4 alone", 512, b4, zeros, x4)
	wantChosen(t, "4 and nothing", 512, b4, nil, x4)
	wantChosen(t, "5 alone", 512, zeros, b5, x5)
	wantChosen(t, "5 and nothing", 512, nil, b5, x5)
	wantChosen(t, "4, and 6 in the wrong sector", 512, b4, b6, x4)
	wantChosen(t, "5, and one of the wrong sector", 512, encode(t, of(7, 0)), b5, x5)
	wantNone(t, "both in the wrong sectors", 512, b5, b4)
	wantNone(t, "zeros", 512, zeros, zeros)
	wantNone(t, "nothing", 512, nil, nil)
	wantNone(t, "nothing of no size", 0, nil, nil)
}

// TestChooseGenerations: P4.3: generations are held against each other as numbers of 64 bits, however far apart.
func TestChooseGenerations(t *testing.T) {
	even := []uint64{0, 2, 256, 1 << 32, 1<<63 - 2, 1 << 63, math.MaxUint64 - 1}
	odd := []uint64{1, 3, 255, 257, 1<<32 + 1, 1<<63 - 1, 1<<63 + 1, math.MaxUint64}
	for _, g := range even {
		for _, h := range odd {
			want := of(max(g, h), 20)
			wantChosen(t, "two generations", 512, encode(t, of(g, 20)), encode(t, of(h, 20)), want)
		}
		wantChosen(t, "one of sector 0", 512, encode(t, of(g, 20)), nil, of(g, 20))
	}
}

// TestChooseSize: P4.3: a superblock of another sector's size does not count, even if it is the newer one.
func TestChooseSize(t *testing.T) {
	small := of(4, 12)
	large := api.Super{Generation: 5, Root: 12, Shape: with(func(s *api.Shape) { s.Sector = 1024 })}
	a, b := encode(t, small), encode(t, large)
	wantChosen(t, "size 512", 512, a, b, small)
	wantChosen(t, "size 1024", 1024, a, b, large)
	for _, size := range []int{0, -512, 511, 513, 2048, 4096, math.MaxInt} {
		wantNone(t, "another size", size, a, b)
	}
}

// TestChooseTorn: P4.3: a superblock with a turned bit does not count.
func TestChooseTorn(t *testing.T) {
	x4, x5 := of(4, 12), of(5, 13)
	b4, b5 := encode(t, x4), encode(t, x5)
	for i := range 8 * 512 {
		torn := slices.Clone(b5)
		torn[i/8] ^= 1 << (i % 8)
		wantChosen(t, "5 with a turned bit", 512, b4, torn, x4)
	}
}

// TestOneOrTheOther: P4.5: the old one counts till the next one's bytes are in their slot, whatever that had; then the new one.
func TestOneOrTheOther(t *testing.T) {
	r := rand.New(rand.NewSource(45))
	for range 500 {
		old := someSuper(r)
		if old.Generation == math.MaxUint64 || old.Generation < 1 {
			continue
		}
		generation, slot, e := layout.Next(old)
		if e != api.OK || generation != old.Generation+1 || slot == layout.Slot(old.Generation) {
			t.Fatal("Next", old.Generation, generation, slot, e)
		}
		size := old.Shape.Sector
		next := someSuper(r)
		for next.Shape.Sector != size {
			next = someSuper(r)
		}
		next.Generation = generation
		before := old
		before.Generation--
		noise := make([]byte, size)
		r.Read(noise)
		var sectors [2][]byte
		sectors[1-slot] = encode(t, old)
		for _, was := range [][]byte{nil, make([]byte, size), noise, encode(t, before), encode(t, old)} {
			sectors[slot] = was
			wantChosen(t, "the old one", size, sectors[0], sectors[1], old)
		}
		sectors[slot] = encode(t, next)
		wantChosen(t, "the new one", size, sectors[0], sectors[1], next)
	}
}
