package seq_test

import (
	"cmp"
	"math"
	"math/rand"
	"slices"
	"testing"

	"dedup/seq"
)

// wantHeap holds what a heap tells: how many there are, and the least one.
func wantHeap[K cmp.Ordered](t *testing.T, h *seq.Heap[K], sorted []K) {
	t.Helper()
	var want K
	if len(sorted) > 0 {
		want = sorted[0]
	}
	if k, ok := h.Least(); k != want || ok != (len(sorted) > 0) || h.Len() != len(sorted) {
		t.Fatal("Least", k, ok, "Len", h.Len(), "want", want, len(sorted))
	}
}

// wantPop holds what is popped, and what is in it then.
func wantPop[K cmp.Ordered](t *testing.T, h *seq.Heap[K], sorted []K) []K {
	t.Helper()
	wantHeap(t, h, sorted)
	k, ok := h.Pop()
	if len(sorted) == 0 {
		var none K
		if k != none || ok {
			t.Fatal("Pop of an empty one", k, ok)
		}
		wantHeap(t, h, sorted)
		return sorted
	}
	if k != sorted[0] || !ok {
		t.Fatal("Pop", k, ok, "want", sorted[0])
	}
	wantHeap(t, h, sorted[1:])
	return sorted[1:]
}

// TestHeap: P10.1: the least one comes first, each as often as it is in it.
func TestHeap(t *testing.T) {
	h := seq.NewHeap[int]()
	wantPop(t, h, nil)
	for _, k := range []int{3, 1, 3} {
		h.Push(k)
	}
	left := []int{1, 3, 3}
	for len(left) > 0 {
		left = wantPop(t, h, left)
	}
	wantPop(t, h, nil)
	h.Push(-1)
	h.Push(0)
	left = wantPop(t, h, []int{-1, 0})
	h.Push(math.MinInt)
	h.Push(math.MaxInt)
	left = wantPop(t, h, []int{math.MinInt, 0, math.MaxInt})
	wantPop(t, h, left)
}

// TestHeaps: P10.1: heaps are of any ordered type, and one is not another.
func TestHeaps(t *testing.T) {
	texts, other := seq.NewHeap[string](), seq.NewHeap[string]()
	for _, s := range []string{"b", "", "ab", "a\xff", "b"} {
		texts.Push(s)
	}
	wantHeap(t, other, nil)
	left := []string{"", "a\xff", "ab", "b", "b"}
	slices.Sort(left)
	for len(left) > 0 {
		left = wantPop(t, texts, left)
	}
	floats := seq.NewHeap[float64]()
	for _, f := range []float64{0.5, math.Inf(1), -2, math.Inf(-1)} {
		floats.Push(f)
	}
	wantPop(t, floats, []float64{math.Inf(-1), -2, 0.5, math.Inf(1)})
	small := seq.NewHeap[uint8]()
	small.Push(200)
	small.Push(100)
	wantPop(t, small, []uint8{100, 200})
}

// TestHeapSorts: P10.5: whatever was pushed and popped, popped till it is empty a heap tells what is in it, in order.
func TestHeapSorts(t *testing.T) {
	r := rand.New(rand.NewSource(105))
	for range 200 {
		h := seq.NewHeap[int]()
		var plain []int
		for range r.Intn(300) {
			if r.Intn(3) == 0 {
				plain = wantPop(t, h, plain)
				continue
			}
			k := r.Intn(1 + r.Intn(1000))
			place, _ := slices.BinarySearch(plain, k)
			plain = slices.Insert(plain, place, k)
			h.Push(k)
			wantHeap(t, h, plain)
		}
		for len(plain) > 0 {
			plain = wantPop(t, h, plain)
		}
		wantPop(t, h, nil)
	}
}

// TestHeapOrders: P10.5: of all orders of a few.
func TestHeapOrders(t *testing.T) {
	keys := []int{1, 2, 2, 3, 4, 5, 6}
	var orders func(from int)
	orders = func(from int) {
		if from == len(keys) {
			h := seq.NewHeap[int]()
			for _, k := range keys {
				h.Push(k)
			}
			for left := slices.Sorted(slices.Values(keys)); len(left) > 0; {
				left = wantPop(t, h, left)
			}
		}
		for i := from; i < len(keys); i++ {
			keys[from], keys[i] = keys[i], keys[from]
			orders(from + 1)
			keys[from], keys[i] = keys[i], keys[from]
		}
	}
	orders(0)
}

// TestNoHeap: P10.4: of a nil Heap.
func TestNoHeap(t *testing.T) {
	var h *seq.Heap[string]
	h.Push("a")
	wantPop(t, h, nil)
}
