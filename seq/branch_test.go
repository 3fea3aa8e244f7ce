package seq

import (
	"math/rand"
	"testing"
)

// wantBalanced holds a branch: its count, its order, and that no side has more than mostTimes as many items as the other one (but one beside none).
func wantBalanced(t *testing.T, b *branch[int, int]) {
	t.Helper()
	if b == nil {
		return
	}
	low, high := b.low.size(), b.high.size()
	if b.count != low+1+high {
		t.Fatal("count", b.count, low, high)
	}
	if low+high > 1 && (low > mostTimes*high || high > mostTimes*low) {
		t.Fatal("sides", low, high)
	}
	if low > 0 && b.low.at(low-1).Key >= b.item.Key || high > 0 && b.high.at(0).Key <= b.item.Key {
		t.Fatal("order at", b.item.Key)
	}
	wantBalanced(t, b.low)
	wantBalanced(t, b.high)
}

// TestBalanced: P10.2: whatever is put and deleted, the ways to keys stay short.
func TestBalanced(t *testing.T) {
	r := rand.New(rand.NewSource(102))
	for range 30 {
		m := NewMap[int, int]()
		most := 1 + r.Intn(400)
		for now := range 500 {
			k := r.Intn(most)
			switch {
			case now%100 < 30:
				m.Put(now, now)
			case now%100 < 60:
				m.Put(k, now)
			case now%100 < 80:
				m.Delete(k)
			default:
				x, _ := m.At(0)
				m.Delete(x.Key)
			}
			wantBalanced(t, m.root)
		}
	}
}

// TestPoppedIsNotKept: P10.1: what was popped is not in the room behind a heap's list.
func TestPoppedIsNotKept(t *testing.T) {
	h := NewHeap[string]()
	for _, k := range []string{"c", "a", "b"} {
		h.Push(k)
	}
	h.Pop()
	h.Pop()
	if behind := h.keys[1:3]; behind[0] != "" || behind[1] != "" {
		t.Errorf("kept %q", behind)
	}
}
