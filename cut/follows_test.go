package cut_test

import (
	"math/rand"
	"slices"
	"testing"

	"dedup/api"
)

// TestAllOfIt: P5.3: lengths come to the bytes; each but the last is Min to Max, the last 1 to Max.
func TestAllOfIt(t *testing.T) {
	r := rand.New(rand.NewSource(531))
	for range 2000 {
		c := someShape(r, 3)
		b := someBytes(r, 1+r.Intn(3000))
		l := lengths(t, c, b)
		sum := 0
		for i, n := range l {
			if n > c.Max || n < 1 || n < c.Min && i < len(l)-1 {
				t.Fatal("Lengths", c, l)
			}
			sum += n
		}
		if sum != len(b) {
			t.Fatal("Lengths", c, sum, "of", len(b))
		}
	}
}

// TestFromACutOn: P5.6: Lengths from a cut on are the rest of Lengths.
func TestFromACutOn(t *testing.T) {
	r := rand.New(rand.NewSource(56))
	for range 200 {
		c := someShape(r, 2)
		b := someBytes(r, 1+r.Intn(1500))
		l := lengths(t, c, b)
		for len(l) > 0 {
			b, l = b[l[0]:], l[1:]
			wantLengths(t, c, b, l...)
		}
	}
}

// fromEnd is where cuts lie, counted from the end on.
func fromEnd(l []int) []int {
	at, left := []int{0}, 0
	for _, n := range slices.Backward(l) {
		left += n
		at = append(at, left)
	}
	return at
}

// meet is the cut furthest from the end, within the tail, that both have.
func meet(a, b []int, tail int) int {
	best := 0
	for _, at := range a {
		if at <= tail && at > best && slices.Contains(b, at) {
			best = at
		}
	}
	return best
}

// TestFeetAgain: P5.5: behind a cut that two texts have ahead of the same bytes all cuts are the same; and other bytes ahead soon lead to such a cut.
func TestFeetAgain(t *testing.T) {
	r := rand.New(rand.NewSource(55))
	near, rounds := 0, 200
	for range rounds {
		c := api.Cut{Min: 64, Normal: 256, Max: 2048, Seed: r.Uint64()}
		tail := make([]byte, 16000)
		r.Read(tail)
		x := fromEnd(lengths(t, c, append(someBytes(r, r.Intn(5000)), tail...)))
		y := fromEnd(lengths(t, c, append(someBytes(r, r.Intn(5000)), tail...)))
		at := meet(x, y, len(tail))
		here := func(n int) bool { return n > at }
		if !slices.Equal(slices.DeleteFunc(x, here), slices.DeleteFunc(y, here)) {
			t.Fatal("cuts behind a common one", c)
		}
		if at > 8000 {
			near++
		}
	}
	if near < rounds*9/10 {
		t.Error("feet are found within 8000 bytes only", near, "times of", rounds)
	}
}
