package cut_test

import (
	"bytes"
	"math/rand"
	"slices"
	"testing"

	"dedup/api"
	"dedup/cut"
)

// newCutter is one by a shape that may be.
func newCutter(t *testing.T, c api.Cut) *cut.Cutter {
	t.Helper()
	x, e := cut.New(c)
	if e != api.OK || x == nil {
		t.Fatal("New", c, e)
	}
	return x
}

// wantTold holds what a Write or an End told.
func wantTold(t *testing.T, what string, got []int, want ...int) {
	t.Helper()
	if !slices.Equal(got, want) {
		t.Error(what, got, "want", want)
	}
}

// TestSureByMax: P5.2: a piece is sure as soon as Max bytes of it were written, not a byte ahead.
func TestSureByMax(t *testing.T) {
	c := api.Cut{Min: 4, Normal: 16, Max: 100, Seed: quietSeed(t)}
	ones := bytes.Repeat([]byte{1}, 300)
	x := newCutter(t, c)
	wantTold(t, "Write of 99", x.Write(ones[:99]))
	wantTold(t, "Write of the last one", x.Write(ones[:1]), 100)
	wantTold(t, "End of nothing more", x.End())
	wantTold(t, "Write of 100", x.Write(ones[:100]), 100)
	wantTold(t, "Write of 101", x.Write(ones[:101]), 100)
	wantTold(t, "End of one", x.End(), 1)
	wantTold(t, "Write of 300", x.Write(ones), 100, 100, 100)
	wantTold(t, "End", x.End())
}

// TestSureByMin: P5.2: Min bytes, with Max as many, are sure; with a greater Max they are not till the next byte is a cut's.
func TestSureByMin(t *testing.T) {
	x := newCutter(t, api.Cut{Min: 16, Normal: 16, Max: 16})
	wantTold(t, "Write of 16 of 16", x.Write(make([]byte, 16)), 16)
	wantTold(t, "Write of 20", x.Write(make([]byte, 20)), 16)
	wantTold(t, "End", x.End(), 4)
	x = newCutter(t, api.Cut{Min: 4, Normal: 16, Max: 16}) // the gear of 0 is 0: a cut at Min
	wantTold(t, "Write of Min", x.Write(make([]byte, 4)))
	wantTold(t, "Write of the byte behind the cut", x.Write(make([]byte, 1)), 4)
	wantTold(t, "Write of 3", x.Write(make([]byte, 3)))
	wantTold(t, "End of Min", x.End(), 4)
}

// TestSureByteByByte: P5.2: behind each byte just those pieces were told that are sure by the chapter's words.
func TestSureByteByByte(t *testing.T) {
	r := rand.New(rand.NewSource(521))
	for range 40 {
		c := someShape(r, 2)
		p := newPlain(c)
		b := someBytes(r, 300)
		x := newCutter(t, c)
		var told []int
		for n := range b {
			told = append(told, x.Write(b[n:n+1])...)
			if want := p.sure(b[:n+1]); !slices.Equal(told, want) {
				t.Fatal("Write", c, n+1, "bytes:", told, "want", want)
			}
		}
		wantTold(t, "all", append(told, x.End()...), p.lengths(b)...)
	}
}

// TestSureWhateverComes: P5.2: what was told is the beginning of Lengths, whatever is written behind.
func TestSureWhateverComes(t *testing.T) {
	r := rand.New(rand.NewSource(522))
	for range 300 {
		c := someShape(r, 2)
		b := someBytes(r, r.Intn(800))
		told := newCutter(t, c).Write(b)
		for range 5 {
			all := append(slices.Clone(b), someBytes(r, r.Intn(300))...)
			if l := lengths(t, c, all); len(l) < len(told) || !slices.Equal(l[:len(told)], told) {
				t.Fatal("told", told, "then", l)
			}
		}
	}
}

// TestPieceByPiece: P5.4: what Write and End tell is Lengths of all that was written, however it is cut into Writes; and then it is as new.
func TestPieceByPiece(t *testing.T) {
	r := rand.New(rand.NewSource(54))
	for range 300 {
		c := someShape(r, 5)
		x := newCutter(t, c)
		for range 3 {
			b := someBytes(r, r.Intn(5000))
			most := 1 + r.Intn(1+len(b))
			var told []int
			for rest := b; len(rest) > 0; {
				n := r.Intn(min(most, len(rest)) + 1)
				told = append(told, x.Write(rest[:n])...)
				rest = rest[n:]
			}
			told = append(told, x.End()...)
			if want := lengths(t, c, b); !slices.Equal(told, want) {
				t.Fatal("told", c, told, want)
			}
		}
	}
}

// TestWriteNothing: P5.2: a Write of nothing tells nothing and changes nothing; nor does End of nothing.
func TestWriteNothing(t *testing.T) {
	x := newCutter(t, shape())
	wantTold(t, "End of a new one", x.End())
	wantTold(t, "Write of nil", x.Write(nil))
	wantTold(t, "Write of no bytes", x.Write([]byte{}))
	wantTold(t, "End of no bytes", x.End())
	x.Write(make([]byte, 5))
	wantTold(t, "Write of nil behind 5", x.Write(nil))
	wantTold(t, "End", x.End(), 5)
	wantTold(t, "End again", x.End())
}

// TestNoCutter: P5.2: of a nil Cutter nothing; one that New did not make ends too.
func TestNoCutter(t *testing.T) {
	var none *cut.Cutter
	for _, x := range []*cut.Cutter{none, {}} {
		wantTold(t, "Write", x.Write(nil))
		wantTold(t, "Write", x.Write(make([]byte, 400)))
		wantTold(t, "End", x.End())
	}
}

// TestCuttersShareNothing: P5.2 with R3, R4: bytes are not kept and not changed, lists are new ones, and two cutters have nothing to do with one another.
func TestCuttersShareNothing(t *testing.T) {
	r := rand.New(rand.NewSource(523))
	all := make([]byte, 2000)
	r.Read(all)
	want := lengths(t, shape(), all)
	x, y := newCutter(t, shape()), newCutter(t, shape())
	var told []int
	for b := range slices.Chunk(all, 37) {
		room := append(slices.Clone(b), 1, 2, 3)
		whole := slices.Clone(room)
		l := x.Write(room[:len(b)])
		told = append(told, l...)
		clear(l[:cap(l)])
		if !bytes.Equal(room, whole) {
			t.Fatal("bytes were changed")
		}
		r.Read(room)
		y.Write(room)
	}
	last := x.End()
	wantTold(t, "all", append(told, last...), want...)
}
