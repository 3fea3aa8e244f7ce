package sha_test

import (
	"crypto/sha256"
	"testing"

	"dedup/sha"
)

// TestHasherEmpty: P1.3, nothing was written, or nothing but nothing.
func TestHasherEmpty(t *testing.T) {
	h := sha.New()
	for range 3 {
		if h.Sum() != sha256.Sum256(nil) || h.Len() != 0 {
			t.Errorf("nothing written: %x, %d", h.Sum(), h.Len())
		}
		h.Write(nil)
		h.Write([]byte{})
	}
}

// TestHasherTwoCuts: P1.3 and P1.4, three pieces, cut at every two places.
func TestHasherTwoCuts(t *testing.T) {
	for _, n := range []int{0, 1, 55, 56, 64, 65, 128, 200} {
		b := sample(n)
		want := sha256.Sum256(b)
		for i := range n + 1 {
			for j := i; j <= n; j++ {
				h := sha.New()
				h.Write(b[:i])
				h.Write(b[i:j])
				h.Write(b[j:])
				if h.Sum() != want || h.Len() != n {
					t.Fatalf("%d bytes, cut at %d and %d: %x, %d", n, i, j, h.Sum(), h.Len())
				}
			}
		}
	}
}

// TestHasherSumAnytime: P1.3 and P1.4, the sum is asked behind each piece, twice, and changes nothing.
func TestHasherSumAnytime(t *testing.T) {
	b := sample(3000)
	for step := 1; step < 200; step += 9 {
		h := sha.New()
		for end := 0; end < len(b); {
			next := min(end+step, len(b))
			h.Write(b[end:next])
			end = next
			want := sha256.Sum256(b[:end])
			if h.Sum() != want || h.Sum() != want || h.Len() != end {
				t.Fatalf("behind %d bytes by %d: %x, %d", end, step, h.Sum(), h.Len())
			}
		}
	}
}

// TestHasherKeepsNothing: R3, what was written counts as it was then.
func TestHasherKeepsNothing(t *testing.T) {
	for _, n := range []int{1, 63, 64, 100} {
		b := sample(n)
		want := sha256.Sum256(b)
		h := sha.New()
		h.Write(b)
		clear(b)
		if h.Sum() != want {
			t.Errorf("%d bytes that were changed behind the write", n)
		}
	}
}

// TestHasherCopy: P1.3, what is written to one is not written to the other.
func TestHasherCopy(t *testing.T) {
	b := sample(300)
	for n := range 200 {
		one := sha.New()
		one.Write(b[:n])
		other := one.Copy()
		if other.Sum() != sha256.Sum256(b[:n]) || other.Len() != n {
			t.Fatalf("a copy behind %d bytes", n)
		}
		one.Write(b[n : n+90])
		if other.Sum() != sha256.Sum256(b[:n]) || other.Len() != n {
			t.Fatalf("a copy behind %d bytes has what was written to the first", n)
		}
		other.Write(b[:7])
		if one.Sum() != sha256.Sum256(b[:n+90]) || one.Len() != n+90 {
			t.Fatalf("the first behind %d bytes has what was written to its copy", n)
		}
		if other.Sum() != sha256.Sum256(append(b[:n:n], b[:7]...)) || other.Len() != n+7 {
			t.Fatalf("a copy behind %d bytes is not written to further", n)
		}
	}
}

// TestHasherNil: P1.3, of a nil Hasher.
func TestHasherNil(t *testing.T) {
	var h *sha.Hasher
	h.Write([]byte("abc"))
	if h.Sum() != [32]byte{} || h.Len() != 0 || h.Copy() != nil {
		t.Error("a nil Hasher", h.Sum(), h.Len(), h.Copy())
	}
}
