package seq

import "cmp"

// A side of a branch has at most mostTimes as many items as the other one, so that ways are short; turnTimes says which turn makes it so again. Not all pairs of numbers do: of these two it is known.
const (
	mostTimes = 3
	turnTimes = 2
)

// branch is an item with those below and above it. It is never changed: maps, forks and those who go over them share it.
type branch[K cmp.Ordered, V any] struct {
	item  Item[K, V]
	low   *branch[K, V]
	high  *branch[K, V]
	count int
}

// newBranch is an item between two sides, whose numbers may be as they are.
func newBranch[K cmp.Ordered, V any](low *branch[K, V], item Item[K, V], high *branch[K, V]) *branch[K, V] {
	return &branch[K, V]{item: item, low: low, high: high, count: low.size() + 1 + high.size()}
}

// balanced is an item between two sides, one of which has an item too many or too few at most.
func balanced[K cmp.Ordered, V any](low *branch[K, V], item Item[K, V], high *branch[K, V]) *branch[K, V] {
	switch {
	case low.size()+high.size() <= 1:
		return newBranch(low, item, high)
	case high.size() > mostTimes*low.size():
		return turnDown(low, item, high)
	case low.size() > mostTimes*high.size():
		return turnUp(low, item, high)
	}
	return newBranch(low, item, high)
}

// turnDown gives items of the high side to the low one.
func turnDown[K cmp.Ordered, V any](low *branch[K, V], item Item[K, V], high *branch[K, V]) *branch[K, V] {
	middle := high.low
	if middle.size() < turnTimes*high.high.size() {
		return newBranch(newBranch(low, item, middle), high.item, high.high)
	}
	return newBranch(newBranch(low, item, middle.low), middle.item, newBranch(middle.high, high.item, high.high))
}

// turnUp gives items of the low side to the high one.
func turnUp[K cmp.Ordered, V any](low *branch[K, V], item Item[K, V], high *branch[K, V]) *branch[K, V] {
	middle := low.high
	if middle.size() < turnTimes*low.low.size() {
		return newBranch(low.low, low.item, newBranch(middle, item, high))
	}
	return newBranch(newBranch(low.low, low.item, middle.low), middle.item, newBranch(middle.high, item, high))
}

// size is how many items there are.
func (b *branch[K, V]) size() int {
	if b == nil {
		return 0
	}
	return b.count
}

// find is the branch of a key, nil if there is none.
func (b *branch[K, V]) find(k K) *branch[K, V] {
	for b != nil {
		c := cmp.Compare(k, b.item.Key)
		switch {
		case c < 0:
			b = b.low
		case c > 0:
			b = b.high
		default:
			return b
		}
	}
	return nil
}

// with is the branch with an item, in the place of one with its key.
func (b *branch[K, V]) with(item Item[K, V]) *branch[K, V] {
	if b == nil {
		return newBranch(nil, item, nil)
	}
	c := cmp.Compare(item.Key, b.item.Key)
	switch {
	case c < 0:
		return balanced(b.low.with(item), b.item, b.high)
	case c > 0:
		return balanced(b.low, b.item, b.high.with(item))
	}
	return newBranch(b.low, item, b.high)
}

// without is the branch without a key.
func (b *branch[K, V]) without(k K) *branch[K, V] {
	if b == nil {
		return nil
	}
	c := cmp.Compare(k, b.item.Key)
	switch {
	case c < 0:
		return balanced(b.low.without(k), b.item, b.high)
	case c > 0:
		return balanced(b.low, b.item, b.high.without(k))
	}
	return glued(b.low, b.high)
}

// glued is two sides without the item between them: the greater one gives the item next to it.
func glued[K cmp.Ordered, V any](low, high *branch[K, V]) *branch[K, V] {
	switch {
	case low == nil:
		return high
	case high == nil:
		return low
	case low.count > high.count:
		item := low.at(low.count - 1)
		return balanced(low.without(item.Key), item, high)
	}
	item := high.at(0)
	return balanced(low, item, high.without(item.Key))
}

// at is the item at a place that there is.
func (b *branch[K, V]) at(i int) Item[K, V] {
	for i != b.low.size() {
		if i < b.low.size() {
			b = b.low
		} else {
			i -= b.low.size() + 1
			b = b.high
		}
	}
	return b.item
}

// rank is how many keys are below one.
func (b *branch[K, V]) rank(k K) int {
	n := 0
	for b != nil {
		if cmp.Less(b.item.Key, k) {
			n += b.low.size() + 1
			b = b.high
		} else {
			b = b.low
		}
	}
	return n
}

// all goes over all items, and tells whether it was not stopped.
func (b *branch[K, V]) all(yield func(K, V) bool) bool {
	return b == nil || b.low.all(yield) && yield(b.item.Key, b.item.Value) && b.high.all(yield)
}

// within goes over the keys from from on and below to, and tells whether it was not stopped; sides that have none of them are not gone into.
func (b *branch[K, V]) within(from, to K, yield func(K, V) bool) bool {
	if b == nil {
		return true
	}
	begun := !cmp.Less(b.item.Key, from)
	ended := !cmp.Less(b.item.Key, to)
	if begun && !b.low.within(from, to, yield) {
		return false
	}
	if begun && !ended && !yield(b.item.Key, b.item.Value) {
		return false
	}
	return ended || b.high.within(from, to, yield)
}
