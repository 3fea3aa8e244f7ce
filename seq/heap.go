package seq

import "cmp"

// climb lets the last one of a heap's list come to its place.
func climb[T any](l []T, less func(a, b T) bool) {
	for i := len(l) - 1; i > 0; {
		above := (i - 1) / 2
		if !less(l[i], l[above]) {
			return
		}
		l[i], l[above] = l[above], l[i]
		i = above
	}
}

// sink lets the first one of a heap's list come to its place.
func sink[T any](l []T, less func(a, b T) bool) {
	for i := 0; 2*i+1 < len(l); {
		below := 2*i + 1
		if below+1 < len(l) && less(l[below+1], l[below]) {
			below++
		}
		if !less(l[below], l[i]) {
			return
		}
		l[i], l[below] = l[below], l[i]
		i = below
	}
}

// dropFirst is a heap's list without its first one.
func dropFirst[T any](l []T, less func(a, b T) bool) []T {
	last := len(l) - 1
	l[0] = l[last]
	clear(l[last:]) // what is gone is not kept
	sink(l[:last], less)
	return l[:last]
}

// Heap tells its least one first.
type Heap[K cmp.Ordered] struct {
	keys []K
}

// NewHeap is empty.
func NewHeap[K cmp.Ordered]() *Heap[K] {
	return &Heap[K]{}
}

// Push puts one in.
func (h *Heap[K]) Push(k K) {
	if h == nil {
		return
	}
	h.keys = append(h.keys, k)
	climb(h.keys, cmp.Less[K])
}

// Pop takes the least one out.
func (h *Heap[K]) Pop() (K, bool) {
	k, ok := h.Least()
	if ok {
		h.keys = dropFirst(h.keys, cmp.Less[K])
	}
	return k, ok
}

// Least is the least one.
func (h *Heap[K]) Least() (K, bool) {
	if h.Len() == 0 {
		var none K
		return none, false
	}
	return h.keys[0], true
}

// Len is how many there are.
func (h *Heap[K]) Len() int {
	if h == nil {
		return 0
	}
	return len(h.keys)
}
