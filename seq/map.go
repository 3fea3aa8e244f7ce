package seq

import (
	"cmp"
	"iter"
)

// Map is keys in order, with values.
type Map[K cmp.Ordered, V any] struct {
	root *branch[K, V]
}

// NewMap is empty.
func NewMap[K cmp.Ordered, V any]() *Map[K, V] {
	return &Map[K, V]{}
}

// items is what a map has; a nil one has nothing.
func (m *Map[K, V]) items() *branch[K, V] {
	if m == nil {
		return nil
	}
	return m.root
}

// Put gives a key a value: what it had.
func (m *Map[K, V]) Put(k K, v V) (V, bool) {
	had, ok := m.Get(k)
	if m != nil {
		m.root = m.root.with(Item[K, V]{Key: k, Value: v})
	}
	return had, ok
}

// Get is what a key has.
func (m *Map[K, V]) Get(k K) (V, bool) {
	b := m.items().find(k)
	if b == nil {
		var none V
		return none, false
	}
	return b.item.Value, true
}

// Delete takes a key out: what it had.
func (m *Map[K, V]) Delete(k K) (V, bool) {
	had, ok := m.Get(k)
	if ok {
		m.root = m.root.without(k)
	}
	return had, ok
}

// Len is how many keys there are.
func (m *Map[K, V]) Len() int {
	return m.items().size()
}

// At is the key at a place.
func (m *Map[K, V]) At(i int) (Item[K, V], bool) {
	if i < 0 || i >= m.Len() {
		return Item[K, V]{}, false
	}
	return m.root.at(i), true
}

// Rank is how many keys are below one.
func (m *Map[K, V]) Rank(k K) int {
	return m.items().rank(k)
}

// Range goes over the keys from from on and below to.
func (m *Map[K, V]) Range(from, to K) iter.Seq2[K, V] {
	return func(yield func(K, V) bool) {
		m.items().within(from, to, yield)
	}
}

// All goes over all keys.
func (m *Map[K, V]) All() iter.Seq2[K, V] {
	return func(yield func(K, V) bool) {
		m.items().all(yield)
	}
}

// Fork is another one that is the same.
func (m *Map[K, V]) Fork() *Map[K, V] {
	if m == nil {
		return nil
	}
	return &Map[K, V]{root: m.root}
}
