package run

import (
	"iter"

	"dedup/api"
	"dedup/seq"
)

// Mem is entries in memory.
type Mem struct {
	entries *seq.Map[string, api.Entry]
}

// NewMem has nothing.
func NewMem() *Mem {
	return &Mem{entries: seq.NewMap[string, api.Entry]()}
}

// made tells whether a Mem is one that a call here gave.
func (m *Mem) made() bool {
	return m != nil && m.entries != nil
}

// keep lets an entry be there, in the place of an old one of its key.
func (m *Mem) keep(x api.Entry) api.Errno {
	if !m.made() {
		return api.ErrClosed
	}
	if !mayEntry(x) {
		return api.ErrItem
	}
	m.entries.Put(x.Key, x)
	return api.OK
}

// Put gives a key a value.
func (m *Mem) Put(key, value string) api.Errno {
	return m.keep(api.Entry{Key: key, Value: value})
}

// Delete lets a key be gone.
func (m *Mem) Delete(key string) api.Errno {
	return m.keep(api.Entry{Key: key, Gone: true})
}

// Get is a key's entry.
func (m *Mem) Get(key string) (api.Entry, bool) {
	if !m.made() {
		return api.Entry{}, false
	}
	return m.entries.Get(key)
}

// Len is how many there are.
func (m *Mem) Len() int {
	if !m.made() {
		return 0
	}
	return m.entries.Len()
}

// All goes over them, by their keys.
func (m *Mem) All() iter.Seq[api.Entry] {
	return func(yield func(api.Entry) bool) {
		if !m.made() {
			return
		}
		for _, x := range m.entries.All() {
			if !yield(x) {
				return
			}
		}
	}
}

// Clear takes all out.
func (m *Mem) Clear() {
	if m.made() {
		m.entries = seq.NewMap[string, api.Entry]()
	}
}

// Fork is another one that is the same.
func (m *Mem) Fork() *Mem {
	if !m.made() {
		return nil
	}
	return &Mem{entries: m.entries.Fork()}
}
