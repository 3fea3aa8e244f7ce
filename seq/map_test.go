package seq_test

import (
	"cmp"
	"iter"
	"maps"
	"math"
	"math/rand"
	"slices"
	"testing"

	"dedup/seq"
)

// item is an item of a text and a number.
type item = seq.Item[string, int]

// collect is what is gone over, in order.
func collect[K cmp.Ordered, V any](s iter.Seq2[K, V]) []seq.Item[K, V] {
	var l []seq.Item[K, V]
	for k, v := range s {
		l = append(l, seq.Item[K, V]{Key: k, Value: v})
	}
	return l
}

// newMap is a map of these items.
func newMap(l ...item) *seq.Map[string, int] {
	m := seq.NewMap[string, int]()
	for _, x := range l {
		m.Put(x.Key, x.Value)
	}
	return m
}

// wantOf holds a value and whether there is one.
func wantOf[V comparable](t *testing.T, what string, got V, ok bool, want V, there bool) {
	t.Helper()
	if got != want || ok != there {
		t.Fatal(what, got, ok, "want", want, there)
	}
}

// wantMap holds all that a map tells against its items in order.
func wantMap[K cmp.Ordered, V comparable](t *testing.T, m *seq.Map[K, V], l []seq.Item[K, V]) {
	t.Helper()
	if m.Len() != len(l) {
		t.Fatal("Len", m.Len(), "want", len(l))
	}
	if got := collect(m.All()); !slices.Equal(got, l) {
		t.Fatal("All", got, "want", l)
	}
	for i, x := range l {
		got, ok := m.At(i)
		wantOf(t, "At", got, ok, x, true)
		v, ok := m.Get(x.Key)
		wantOf(t, "Get", v, ok, x.Value, true)
		if n := m.Rank(x.Key); n != i {
			t.Fatal("Rank", x.Key, n, "want", i)
		}
	}
	for _, i := range []int{-1, len(l), len(l) + 1, math.MaxInt, math.MinInt} {
		got, ok := m.At(i)
		wantOf(t, "At", got, ok, seq.Item[K, V]{}, false)
	}
}

// TestMap: P10.2: what keys have, and where they come.
func TestMap(t *testing.T) {
	m := seq.NewMap[string, int]()
	wantMap(t, m, nil)
	put := func(k string, v, want int, there bool) {
		t.Helper()
		had, ok := m.Put(k, v)
		wantOf(t, "Put", had, ok, want, there)
	}
	put("d", 4, 0, false)
	put("b", 2, 0, false)
	wantMap(t, m, []item{{"b", 2}, {"d", 4}})
	for k, want := range map[string]int{"": 0, "a": 0, "b": 0, "b\x00": 1, "c": 1, "d": 1, "dd": 2, "\xff": 2} {
		if n := m.Rank(k); n != want {
			t.Error("Rank", k, n, want)
		}
	}
	put("b", 7, 2, true)
	put("b", 0, 7, true)
	put("", 9, 0, false)
	wantMap(t, m, []item{{"", 9}, {"b", 0}, {"d", 4}})
	v, ok := m.Get("b")
	wantOf(t, "Get of a 0", v, ok, 0, true)
	v, ok = m.Get("c")
	wantOf(t, "Get of none", v, ok, 0, false)
	v, ok = m.Delete("c")
	wantOf(t, "Delete of none", v, ok, 0, false)
	v, ok = m.Delete("d")
	wantOf(t, "Delete", v, ok, 4, true)
	v, ok = m.Delete("d")
	wantOf(t, "Delete again", v, ok, 0, false)
	v, ok = m.Get("d")
	wantOf(t, "Get behind it", v, ok, 0, false)
	wantMap(t, m, []item{{"", 9}, {"b", 0}})
	put("d", 5, 0, false)
	m.Delete("")
	m.Delete("b")
	m.Delete("d")
	wantMap(t, m, nil)
}

// TestMapsOfTypes: P10.2: maps are of any ordered type, and of values of any.
func TestMapsOfTypes(t *testing.T) {
	floats := seq.NewMap[float64, []int]()
	floats.Put(math.Inf(1), nil)
	floats.Put(-0.5, []int{1})
	floats.Put(0, []int{2, 3})
	if v, ok := floats.Get(math.Copysign(0, -1)); !ok || len(v) != 2 || floats.Rank(math.Inf(1)) != 2 {
		t.Error("Get of -0", v, ok)
	}
	if had, ok := floats.Put(math.Copysign(0, -1), nil); !ok || len(had) != 2 || floats.Len() != 3 {
		t.Error("Put of -0", had, ok, floats.Len())
	}
	small := seq.NewMap[uint8, struct{}]()
	for i := range 256 {
		small.Put(uint8(255-i), struct{}{})
	}
	if x, ok := small.At(200); !ok || x.Key != 200 || small.Len() != 256 {
		t.Error("At", x, ok)
	}
	functions := seq.NewMap[int, func() int]()
	functions.Put(1, func() int { return 7 })
	if f, ok := functions.Get(1); !ok || f() != 7 {
		t.Error("Get of a function")
	}
}

// TestRange: P10.2: from on, and below to.
func TestRange(t *testing.T) {
	m := newMap(item{"b", 1}, item{"d", 2}, item{"f", 3})
	for _, c := range []struct {
		from, to string
		want     []item
	}{
		{"a", "d", []item{{"b", 1}}},
		{"b", "d", []item{{"b", 1}}},
		{"b", "d\x00", []item{{"b", 1}, {"d", 2}}},
		{"b\x00", "d", nil},
		{"", "z", []item{{"b", 1}, {"d", 2}, {"f", 3}}},
		{"d", "z", []item{{"d", 2}, {"f", 3}}},
		{"f", "f", nil},
		{"f", "a", nil},
		{"z", "a", nil},
		{"", "", nil},
		{"b", "", nil},
		{"g", "z", nil},
		{"", "b", nil},
	} {
		if got := collect(m.Range(c.from, c.to)); !slices.Equal(got, c.want) {
			t.Errorf("Range(%q, %q): %v, want %v", c.from, c.to, got, c.want)
		}
	}
}

// TestIterators: P10.2 with R5: they begin anew each time, also within themselves, may be stopped, and change nothing.
func TestIterators(t *testing.T) {
	l := []item{{"a", 1}, {"b", 2}, {"c", 3}, {"d", 4}, {"e", 5}}
	m := newMap(l...)
	for _, s := range []iter.Seq2[string, int]{m.All(), m.Range("", "z"), m.Range("a", "f")} {
		for stop := 1; stop <= len(l); stop++ {
			n := 0
			for range s {
				if n++; n == stop {
					break
				}
			}
			if n != stop {
				t.Error("stopped at", n, "not", stop)
			}
		}
		for range s {
			if got := collect(s); !slices.Equal(got, l) {
				t.Error("within itself", got)
			}
		}
	}
	wantMap(t, m, l)
}

// TestIteratorsLook: P10.2 with R5: all is as it is when the ranging begins, neither as at the call nor as it becomes.
func TestIteratorsLook(t *testing.T) {
	m := newMap(item{"x", 0})
	all, some := m.All(), m.Range("b", "e")
	m.Delete("x")
	l := []item{{"a", 1}, {"b", 2}, {"c", 3}, {"d", 4}, {"e", 5}}
	for _, x := range l {
		m.Put(x.Key, x.Value)
	}
	for _, c := range []struct {
		s    iter.Seq2[string, int]
		want []item
	}{{all, l}, {some, l[1:4]}} {
		fork := m.Fork()
		var got []item
		for k, v := range c.s {
			got = append(got, item{k, v})
			m.Put("c", 99)
			m.Put("aa", 99)
			m.Put("cc", 99)
			m.Put("dd", 99)
			m.Delete("d")
			m.Delete("b")
		}
		if !slices.Equal(got, c.want) {
			t.Error("gone over", got, "want", c.want)
		}
		wantMap(t, m, []item{{"a", 1}, {"aa", 99}, {"c", 99}, {"cc", 99}, {"dd", 99}, {"e", 5}})
		for _, k := range []string{"aa", "cc", "dd"} {
			m.Delete(k)
		}
		for k, v := range fork.All() {
			m.Put(k, v)
		}
	}
}

// TestFork: P10.2: a fork is the same; what is done to one is not done to the other.
func TestFork(t *testing.T) {
	l := []item{{"a", 1}, {"b", 2}, {"c", 3}}
	m := newMap(l...)
	other := m.Fork()
	if other == m {
		t.Fatal("the fork is the map itself")
	}
	wantMap(t, other, l)
	other.Put("b", 9)
	other.Delete("a")
	other.Put("d", 4)
	wantMap(t, m, l)
	m.Delete("c")
	m.Put("0", 0)
	wantMap(t, other, []item{{"b", 9}, {"c", 3}, {"d", 4}})
	wantMap(t, m, []item{{"0", 0}, {"a", 1}, {"b", 2}})
	empty := seq.NewMap[int, int]()
	empty.Fork().Put(1, 1)
	if empty.Len() != 0 {
		t.Error("a fork's item is in the map")
	}
}

// TestNoMap: P10.4: of a nil Map.
func TestNoMap(t *testing.T) {
	var m *seq.Map[string, int]
	v, ok := m.Put("a", 1)
	wantOf(t, "Put", v, ok, 0, false)
	v, ok = m.Get("a")
	wantOf(t, "Get", v, ok, 0, false)
	v, ok = m.Delete("a")
	wantOf(t, "Delete", v, ok, 0, false)
	wantMap(t, m, nil)
	if m.Rank("z") != 0 || m.Fork() != nil || len(collect(m.Range("", "z"))) != 0 {
		t.Error("of a nil Map")
	}
}

// inOrder is a plain map's items in order.
func inOrder(plain map[int]int) []seq.Item[int, int] {
	var l []seq.Item[int, int]
	for _, k := range slices.Sorted(maps.Keys(plain)) {
		l = append(l, seq.Item[int, int]{Key: k, Value: plain[k]})
	}
	return l
}

// TestAsPlain: P10.2, P10.6: whatever is done, and to whichever fork, all is told as by a plain map.
func TestAsPlain(t *testing.T) {
	r := rand.New(rand.NewSource(106))
	for range 40 {
		most := 1 + r.Intn(120)
		ms, plains := []*seq.Map[int, int]{seq.NewMap[int, int]()}, []map[int]int{{}}
		for now := range 250 {
			i := r.Intn(len(ms))
			m, plain := ms[i], plains[i]
			k := r.Intn(most)
			want, there := plain[k]
			switch r.Intn(10) {
			case 0:
				if len(ms) < 4 {
					ms, plains = append(ms, m.Fork()), append(plains, maps.Clone(plain))
				}
			case 1, 2, 3:
				v, ok := m.Delete(k)
				wantOf(t, "Delete", v, ok, want, there)
				delete(plain, k)
			default:
				v, ok := m.Put(k, now)
				wantOf(t, "Put", v, ok, want, there)
				plain[k] = now
			}
			for i, m := range ms {
				l := inOrder(plains[i])
				wantMap(t, m, l)
				from, to := r.Intn(most+4)-2, r.Intn(most+4)-2
				var some []seq.Item[int, int]
				below := 0
				for _, x := range l {
					if x.Key >= from && x.Key < to {
						some = append(some, x)
					}
					if x.Key < from {
						below++
					}
				}
				if got := collect(m.Range(from, to)); !slices.Equal(got, some) {
					t.Fatal("Range", from, to, got, "want", some)
				}
				if got := m.Rank(from); got != below {
					t.Fatal("Rank", from, got, "want", below)
				}
			}
		}
	}
}

// TestManyKeys: P10.2, P10.6: of many keys that come rising, falling and by turns.
func TestManyKeys(t *testing.T) {
	const many = 100000
	for what, key := range map[string]func(i int) int{
		"rising":   func(i int) int { return i },
		"falling":  func(i int) int { return many - 1 - i },
		"by turns": func(i int) int { return i * 7919 % many },
	} {
		m := seq.NewMap[int, int]()
		for i := range many {
			m.Put(key(i), key(i)+1)
		}
		if m.Len() != many {
			t.Fatal(what, "Len", m.Len())
		}
		for i := range many {
			if x, ok := m.At(i); !ok || x.Key != i || x.Value != i+1 || m.Rank(i) != i {
				t.Fatal(what, "At", i, x, ok)
			}
		}
		for i := range many {
			if v, ok := m.Delete(key(i)); !ok || v != key(i)+1 {
				t.Fatal(what, "Delete", key(i), v, ok)
			}
		}
		wantMap(t, m, nil)
	}
}
