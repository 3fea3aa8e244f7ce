package cut_test

import (
	"bytes"
	"math"
	"math/rand"
	"slices"
	"testing"

	"dedup/api"
	"dedup/cut"
)

// shape is one that may be.
func shape() api.Cut {
	return api.Cut{Min: 8, Normal: 32, Max: 128, Seed: 7}
}

// badShapes are some that may not be.
func badShapes() []api.Cut {
	return []api.Cut{
		{},
		{Min: 4, Normal: 17, Max: 20},
		{Min: 0, Normal: 16, Max: 16},
		{Min: 17, Normal: 16, Max: 32},
		{Min: 4, Normal: 16, Max: 15},
		{Min: 4, Normal: 16, Max: 129},
		{Min: 4, Normal: 8, Max: 16},
		{Min: 4, Normal: 131072, Max: 131072},
		{Min: -1, Normal: -16, Max: -1},
		{Min: math.MinInt, Normal: math.MinInt, Max: math.MinInt},
		{Min: 1, Normal: 1 << 62, Max: math.MaxInt},
	}
}

// lengths is Lengths by a shape that may be.
func lengths(t *testing.T, c api.Cut, b []byte) []int {
	t.Helper()
	l, e := cut.Lengths(c, b)
	if e != api.OK {
		t.Fatal("Lengths", c, e)
	}
	return l
}

// wantLengths holds those of all pieces.
func wantLengths(t *testing.T, c api.Cut, b []byte, want ...int) {
	t.Helper()
	if l := lengths(t, c, b); !slices.Equal(l, want) {
		t.Error("Lengths", c, len(b), "bytes:", l, "want", want)
	}
}

// wantCheck holds whether a shape may be.
func wantCheck(t *testing.T, c api.Cut, may bool) {
	t.Helper()
	want := api.ErrCut
	if may {
		want = api.OK
	}
	if e := cut.Check(c); e != want {
		t.Error("Check", c, e)
	}
}

// TestCheck: P5.1: each number of a shape, over all that it may be, at its edges and far beyond.
func TestCheck(t *testing.T) {
	far := []int{math.MinInt, math.MinInt + 1, -1 << 32, -65536, -64, -16, 1 << 31, 1 << 32, 1<<32 + 64, 1 << 61, 1 << 62, math.MaxInt - 1, math.MaxInt}
	var near []int
	for n := -2; n <= 1100; n++ {
		near = append(near, n)
	}
	for _, n := range append(near, far...) {
		wantCheck(t, api.Cut{Min: n, Normal: 64, Max: 128}, n >= 1 && n <= 64)
		wantCheck(t, api.Cut{Min: 16, Normal: 64, Max: n}, n >= 64 && n <= 512)
		wantCheck(t, api.Cut{Min: 1, Normal: n, Max: 512}, n == 64 || n == 128 || n == 256 || n == 512)
	}
	for n := -70000; n <= 140000; n++ {
		wantCheck(t, api.Cut{Min: 1, Normal: n, Max: n}, n >= 16 && n <= 65536 && n&(n-1) == 0)
	}
	for _, n := range far {
		wantCheck(t, api.Cut{Min: 1, Normal: n, Max: n}, false)
		wantCheck(t, api.Cut{Min: n, Normal: n, Max: n}, false)
	}
	for normal := 16; normal <= 65536; normal *= 2 {
		wantCheck(t, api.Cut{Min: 0, Normal: normal, Max: normal}, false)
		wantCheck(t, api.Cut{Min: normal, Normal: normal, Max: normal}, true)
		wantCheck(t, api.Cut{Min: normal + 1, Normal: normal, Max: 8 * normal}, false)
		wantCheck(t, api.Cut{Min: 1, Normal: normal, Max: normal - 1}, false)
		wantCheck(t, api.Cut{Min: 1, Normal: normal, Max: 8 * normal, Seed: math.MaxUint64}, true)
		wantCheck(t, api.Cut{Min: 1, Normal: normal, Max: 8*normal + 1}, false)
	}
}

// TestRefused: P5.1, P5.2: a shape that may not be is refused by all, and gone over by none.
func TestRefused(t *testing.T) {
	for _, c := range badShapes() {
		wantCheck(t, c, false)
		for _, b := range [][]byte{nil, {1}, make([]byte, 300)} {
			if n, e := cut.Next(c, b); n != 0 || e != api.ErrCut {
				t.Error("Next", c, n, e)
			}
			if l, e := cut.Lengths(c, b); len(l) != 0 || e != api.ErrCut {
				t.Error("Lengths", c, l, e)
			}
			for from, n := range cut.Cuts(c, b) {
				t.Error("Cuts", c, from, n)
			}
		}
		if x, e := cut.New(c); x != nil || e != api.ErrCut {
			t.Error("New", c, e)
		}
	}
}

// TestNothing: P5.1: of nothing the first cut is 0, and there is no piece.
func TestNothing(t *testing.T) {
	for _, b := range [][]byte{nil, {}, make([]byte, 0, 300)} {
		if n, e := cut.Next(shape(), b); n != 0 || e != api.OK {
			t.Error("Next", n, e)
		}
		wantLengths(t, shape(), b)
		for from, n := range cut.Cuts(shape(), b) {
			t.Error("Cuts", from, n)
		}
	}
}

// unfold is the x of which folded is y, if no product is between them.
func unfold(y uint64, n uint) uint64 {
	x := y
	for range 64 / n {
		x = y ^ x>>n
	}
	return x
}

// inverse is the number by which an odd one comes to 1.
func inverse(n uint64) uint64 {
	x := n
	for range 6 {
		x *= 2 - n*x
	}
	return x
}

// seedOf is the seed by which the byte b has this gear.
func seedOf(t *testing.T, gear uint64, b byte) uint64 {
	t.Helper()
	x := unfold(gear, 31)
	x = unfold(x*inverse(0x94D049BB133111EB), 27)
	x = unfold(x*inverse(0xBF58476D1CE4E5B9), 30)
	seed := x - uint64(b)
	if got := plainGear(seed, b); !got.IsUint64() || got.Uint64() != gear {
		t.Fatal("no seed of", gear)
	}
	return seed
}

// TestGear: P5.1: the gear of a byte is Mix(Seed + b): known numbers of that mixing, and sums that wrap.
func TestGear(t *testing.T) {
	golden := uint64(0x9E3779B97F4A7C15)
	for i, want := range []uint64{6457827717110365317, 3203168211198807973, 9817491932198370423, 4593380528125082431, 16408922859458223821} {
		if got := plainGear(1234567+uint64(i+1)*golden-200, 200); got.Uint64() != want {
			t.Error("the mixing that all is held against", got, want)
		}
	}
	// 0 is mixed to 0: where the seed and each byte come to it (also beyond 64 bits) all cuts are at Min.
	for _, b := range []byte{0, 1, 5, 127, 128, 255} {
		c := api.Cut{Min: 5, Normal: 16, Max: 64, Seed: -uint64(b)}
		wantLengths(t, c, bytes.Repeat([]byte{b}, 18), 5, 5, 5, 3)
	}
}

// TestHowManyBits: P5.1: the highest k + 1 bits count below Normal, the highest k - 1 from Normal on: hashes at the edge, for each Normal.
func TestHowManyBits(t *testing.T) {
	for k := 4; k <= 16; k++ {
		normal := 1 << k
		low, high := uint64(1)<<(64-k-1), uint64(1)<<(64-k+1)
		for _, least := range []int{1, normal / 2, normal - 1, normal} {
			edge := low
			if least == normal {
				edge = high
			}
			c := api.Cut{Min: least, Normal: normal, Max: 2 * normal}
			b := bytes.Repeat([]byte{9}, least+1)
			c.Seed = seedOf(t, edge-1, 9)
			if n, e := cut.Next(c, b); n != least || e != api.OK {
				t.Error("Next below the edge", c, n, e)
			}
			c.Seed = seedOf(t, edge, 9)
			if n, e := cut.Next(c, b); n != least+1 || e != api.OK {
				t.Error("Next at the edge", c, n, e)
			}
		}
	}
}

// thirdHash is a seed by which the hashes of one and of two bytes 3 have no such zeros at the top, and that of three is as great as it can be, h at most: that hash too.
func thirdHash(t *testing.T, h uint64, zeros int) (uint64, uint64) {
	t.Helper()
	for ; ; h-- {
		g := h * inverse(7) // the hashes are g, 2 g + g, 2 (2 g + g) + g
		if g>>(64-zeros) != 0 && 3*g>>(64-zeros) != 0 {
			return seedOf(t, g, 3), h
		}
	}
}

// TestNormalEdge: P5.1: i is held against Normal, whatever Min is: a hash that is too great for a cut ahead of Normal does at Normal.
func TestNormalEdge(t *testing.T) {
	b := bytes.Repeat([]byte{3}, 17)
	c := api.Cut{Min: 14, Normal: 16, Max: 128}
	seed, h := thirdHash(t, 1<<61-1, 5)
	if c.Seed = seed; h < 1<<60 {
		t.Fatal("no hash near the edge", h)
	}
	if n, e := cut.Next(c, b); n != 16 || e != api.OK {
		t.Error("Next at Normal", n, e)
	}
	c.Min = 13 // the same hash, a byte ahead of Normal
	if n, e := cut.Next(c, b[:16]); n != 16 || e != api.OK {
		t.Error("Next ahead of Normal", n, e)
	}
	c.Seed, _ = thirdHash(t, 1<<59-1, 5)
	if n, e := cut.Next(c, b[:16]); n != 15 || e != api.OK {
		t.Error("Next ahead of Normal, of a small hash", n, e)
	}
}

// TestMinAndMax: P5.1 and the chapter's example: up to Min bytes are one piece, and no piece has more than Max.
func TestMinAndMax(t *testing.T) {
	c := api.Cut{Min: 4, Normal: 16, Max: 16, Seed: quietSeed(t)}
	ones := bytes.Repeat([]byte{1}, 200)
	wantLengths(t, c, ones[:4], 4)
	wantLengths(t, c, ones[:1], 1)
	wantLengths(t, c, ones[:40], 16, 16, 8)
	wantLengths(t, c, ones[:16], 16)
	wantLengths(t, c, ones[:17], 16, 1)
	c.Max = 100
	wantLengths(t, c, ones, 100, 100)
	wantLengths(t, c, ones[:99], 99)
	c = api.Cut{Min: 16, Normal: 16, Max: 16}
	wantLengths(t, c, make([]byte, 40), 16, 16, 8)
	zeros := api.Cut{Min: 16, Normal: 16, Max: 17}
	wantLengths(t, zeros, make([]byte, 33), 16, 16, 1) // the gear of 0 is 0: a cut at Min, ahead of Max
}

// quietSeed is one by which bytes 1, however many of up to 200, have no cut.
func quietSeed(t *testing.T) uint64 {
	t.Helper()
	for seed := range uint64(1000) {
		p := newPlain(api.Cut{Min: 4, Normal: 16, Max: 128, Seed: seed})
		if n, _ := p.first(bytes.Repeat([]byte{1}, 200)); n == 128 {
			return seed
		}
	}
	t.Fatal("no seed is quiet")
	return 0
}

// wantAsPlain holds all calls on bytes against the plain ones.
func wantAsPlain(t *testing.T, c api.Cut, b []byte) {
	t.Helper()
	want := newPlain(c).lengths(b)
	wantLengths(t, c, b, want...)
	n, e := cut.Next(c, b)
	if e != api.OK || n != append(want, 0)[0] {
		t.Error("Next", c, n, e)
	}
	sum, i := 0, 0
	for from, n := range cut.Cuts(c, b) {
		if i >= len(want) || from != sum || n != want[i] {
			t.Fatal("Cuts", c, from, n, "of", want)
		}
		sum += n
		i++
	}
	if sum != len(b) || i != len(want) {
		t.Error("Cuts", c, sum, "of", len(b))
	}
}

// TestAsPlain: P5.1: Next, Lengths and Cuts are as the chapter's words have it, of any shape and bytes.
func TestAsPlain(t *testing.T) {
	r := rand.New(rand.NewSource(5))
	for range 150 {
		wantAsPlain(t, someShape(r, 4), someBytes(r, r.Intn(4000)))
	}
	for range 4 {
		wantAsPlain(t, someShape(r, 12), someBytes(r, 150000))
	}
}

// TestFewBytes: P5.1: each number of bytes around Min, Normal and Max.
func TestFewBytes(t *testing.T) {
	r := rand.New(rand.NewSource(51))
	for _, c := range []api.Cut{{Min: 1, Normal: 16, Max: 16}, {Min: 16, Normal: 16, Max: 16}, {Min: 3, Normal: 16, Max: 128}, {Min: 16, Normal: 16, Max: 17}} {
		for n := range 140 {
			c.Seed = r.Uint64()
			wantAsPlain(t, c, someBytes(r, n))
		}
	}
}

// TestCutsAgain: P5.1 with R5: Cuts begins anew each time, also within itself, and may be stopped anywhere.
func TestCutsAgain(t *testing.T) {
	r := rand.New(rand.NewSource(52))
	b := make([]byte, 500)
	r.Read(b)
	want := lengths(t, shape(), b)
	cuts := cut.Cuts(shape(), b)
	for stop := range len(want) {
		var got []int
		for _, n := range cuts {
			got = append(got, n)
			if len(got) == stop+1 {
				break
			}
		}
		if !slices.Equal(got, want[:stop+1]) {
			t.Fatal("stopped", stop, got)
		}
	}
	for range cuts {
		var got []int
		for _, n := range cuts {
			got = append(got, n)
		}
		if !slices.Equal(got, want) {
			t.Fatal("within itself", got)
		}
	}
}

// TestNothingIsShared: P5.1 with R3 and R5: bytes are not changed and not kept; Cuts goes over them as they were at its call; lists are new.
func TestNothingIsShared(t *testing.T) {
	r := rand.New(rand.NewSource(53))
	room := make([]byte, 800)
	r.Read(room)
	whole := slices.Clone(room)
	b := room[:600]
	want := lengths(t, shape(), b)
	cuts := cut.Cuts(shape(), b)
	clear(lengths(t, shape(), b))
	wantLengths(t, shape(), b, want...)
	if !bytes.Equal(room, whole) {
		t.Error("bytes were changed")
	}
	clear(room)
	var got []int
	for _, n := range cuts {
		got = append(got, n)
		r.Read(room)
	}
	if !slices.Equal(got, want) {
		t.Error("Cuts hangs on what became of the bytes", got, want)
	}
}
