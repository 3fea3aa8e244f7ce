package sha_test

import (
	"crypto/sha256"
	"math"
	"runtime"
	"slices"
	"strings"
	"testing"
	"time"

	"dedup/api"
	"dedup/sha"
)

// samples is n lists of bytes of many lengths, and their sums.
func samples(n int) ([][]byte, [][32]byte) {
	var l [][]byte
	var sums [][32]byte
	for i := range n {
		b := sample((i * 37) % 500)
		l = append(l, b)
		sums = append(sums, sha256.Sum256(b))
	}
	return l, sums
}

// TestManyWorkers: P1.2 and P1.5, as many workers as may be, of lists of all kinds of lengths.
func TestManyWorkers(t *testing.T) {
	for _, n := range []int{0, 1, 2, 3, 63, 64, 65, 200} {
		l, want := samples(n)
		for workers := 1; workers <= 64; workers++ {
			got, e := sha.Many(l, workers)
			if e != api.OK || !slices.Equal(got, want) {
				t.Fatalf("Many of %d by %d: %d sums, error %d", n, workers, len(got), e)
			}
		}
	}
}

// TestManyOrder: P1.2, in order, though the first ones take the longest.
func TestManyOrder(t *testing.T) {
	var l [][]byte
	var want [][32]byte
	for i := range 40 {
		b := sample((40 - i) * 5000)
		l = append(l, b)
		want = append(want, sha256.Sum256(b))
	}
	for _, workers := range []int{1, 2, 7, 40, 64} {
		if got, e := sha.Many(l, workers); e != api.OK || !slices.Equal(got, want) {
			t.Errorf("Many by %d workers, error %d", workers, e)
		}
	}
}

// TestManyWrongWorkers: P1.2, numbers of workers that may not be, also of nothing.
func TestManyWrongWorkers(t *testing.T) {
	l, _ := samples(3)
	for _, workers := range []int{0, -1, 65, 1000, math.MinInt, math.MaxInt} {
		for _, asked := range [][][]byte{nil, l} {
			if got, e := sha.Many(asked, workers); e != api.ErrArg || len(got) != 0 {
				t.Errorf("Many of %d by %d: %d sums, error %d", len(asked), workers, len(got), e)
			}
		}
	}
}

// TestManyLeavesArguments: R3, the lists are not changed, and the answer is new memory.
func TestManyLeavesArguments(t *testing.T) {
	l, want := samples(20)
	same, _ := samples(20)
	first, _ := sha.Many(l, 4)
	clear(first)
	second, _ := sha.Many(l, 4)
	if !slices.Equal(second, want) {
		t.Error("a later answer shares memory with an earlier one")
	}
	if !slices.EqualFunc(l, same, slices.Equal[[]byte]) {
		t.Error("the lists were changed")
	}
}

// started is how many goroutines there are now that package sha started: all stand still while they are counted.
func started() int {
	room := make([]byte, 1<<20)
	stacks := string(room[:runtime.Stack(room, true)])
	return strings.Count(stacks, "\ncreated by dedup/sha.")
}

// peak is how many of them there are, at most, while a call runs.
func peak(call func()) int {
	done := make(chan struct{})
	go func() {
		call()
		close(done)
	}()
	most := 0
	for {
		select {
		case <-done:
			return most
		default:
			most = max(most, started())
		}
	}
}

// gone waits till none of them is there any more: one that has said that it ends may still be seen for a moment.
func gone() bool {
	for range 200 {
		if started() == 0 {
			return true
		}
		time.Sleep(5 * time.Millisecond)
	}
	return false
}

// TestManySideBySide: P1.2, so many goroutines as there are workers, fewer if the list has fewer, and no more.
func TestManySideBySide(t *testing.T) {
	for _, c := range []struct{ items, workers, want int }{{8, 1, 1}, {8, 5, 5}, {3, 64, 3}, {80, 64, 64}} {
		l := slices.Repeat([][]byte{sample(1 << 18)}, c.items)
		most := 0
		for turn := 0; turn < 20 && most < c.want && gone(); turn++ {
			most = max(most, peak(func() { sha.Many(l, c.workers) }))
		}
		if most != c.want {
			t.Errorf("Many of %d by %d workers: %d goroutines", c.items, c.workers, most)
		}
	}
}

// TestManyEnds: P1.2 and R4, no goroutine stays behind the answers.
func TestManyEnds(t *testing.T) {
	l, _ := samples(100)
	for workers := 1; workers <= 64; workers++ {
		sha.Many(l, workers)
		sha.Many(nil, workers)
	}
	if !gone() {
		t.Errorf("%d goroutines stay", started())
	}
}
