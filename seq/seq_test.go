package seq_test

import (
	"math"
	"math/rand"
	"slices"
	"testing"

	"dedup/seq"
)

// sortedOut is a list sorted out, by the chapter's words.
func sortedOut(l []item) []item {
	var out []item
	for i, x := range l {
		above := true
		for _, ahead := range l[:i] {
			above = above && x.Key > ahead.Key
		}
		if above {
			out = append(out, x)
		}
	}
	return out
}

// plainMerge is Merge by the chapter's words.
func plainMerge(lists ...[]item) []item {
	first := map[string]int{}
	for i := len(lists) - 1; i >= 0; i-- {
		for _, x := range sortedOut(lists[i]) {
			first[x.Key] = x.Value
		}
	}
	var out []item
	for k, v := range first {
		out = append(out, item{k, v})
	}
	slices.SortFunc(out, func(a, b item) int {
		if a.Key < b.Key {
			return -1
		}
		return 1
	})
	return out
}

// someList is a list by chance: sorted, or anything.
func someList(r *rand.Rand) []item {
	l := make([]item, r.Intn(12))
	for i := range l {
		l[i] = item{string(rune('a' + r.Intn(14))), r.Int()}
	}
	if r.Intn(2) == 0 {
		slices.SortFunc(l, func(a, b item) int { return int(a.Key[0]) - int(b.Key[0]) })
	}
	if r.Intn(2) == 0 {
		return sortedOut(l)
	}
	return l
}

// someLists is lists by chance.
func someLists(r *rand.Rand) [][]item {
	lists := make([][]item, r.Intn(9))
	for i := range lists {
		lists[i] = someList(r)
	}
	return lists
}

// wantList holds a list.
func wantList(t *testing.T, what string, got, want []item) {
	t.Helper()
	if !slices.Equal(got, want) {
		t.Fatal(what, got, "want", want)
	}
}

// TestMerge: P10.3: of one key the first list's item; lists that are not sorted are sorted out first.
func TestMerge(t *testing.T) {
	for _, c := range []struct {
		lists [][]item
		want  []item
	}{
		{nil, nil},
		{[][]item{nil}, nil},
		{[][]item{nil, {}, nil}, nil},
		{[][]item{{{"a", 1}, {"c", 2}}, {{"a", 9}, {"b", 8}}}, []item{{"a", 1}, {"b", 8}, {"c", 2}}},
		{[][]item{{{"a", 9}, {"b", 8}}, {{"a", 1}, {"c", 2}}}, []item{{"a", 9}, {"b", 8}, {"c", 2}}},
		{[][]item{nil, {{"b", 1}}, nil, {{"a", 2}, {"b", 3}}}, []item{{"a", 2}, {"b", 1}}},
		{[][]item{{{"a", 1}}, {{"a", 2}}, {{"a", 3}}}, []item{{"a", 1}}},
		{[][]item{{{"a", 1}, {"b", 2}, {"c", 3}}}, []item{{"a", 1}, {"b", 2}, {"c", 3}}},
		{[][]item{{{"b", 1}, {"a", 2}, {"b", 3}, {"c", 4}, {"bb", 5}, {"c", 6}, {"d", 7}}}, []item{{"b", 1}, {"c", 4}, {"d", 7}}},
		{[][]item{{{"b", 1}, {"a", 2}}, {{"a", 3}}}, []item{{"a", 3}, {"b", 1}}},
		{[][]item{{{"b", 1}, {"a", 2}}, {{"c", 3}, {"a", 4}, {"b", 5}}}, []item{{"b", 1}, {"c", 3}}},
		{[][]item{{{"", 1}}, {{"", 2}, {"\xff", 3}}}, []item{{"", 1}, {"\xff", 3}}},
	} {
		wantList(t, "Merge", seq.Merge(c.lists...), c.want)
	}
	numbers := seq.Merge([]seq.Item[float64, string]{{Key: -1, Value: "x"}, {Key: 2, Value: "y"}}, []seq.Item[float64, string]{{Key: math.Inf(-1), Value: "z"}})
	if len(numbers) != 3 || numbers[0].Value != "z" || numbers[2].Value != "y" {
		t.Error("Merge of numbers", numbers)
	}
	if l := seq.Merge[int, int](); len(l) != 0 {
		t.Error("Merge of nothing", l)
	}
}

// TestMergeAsPlain: P10.3, P10.7: of any lists Merge tells what the words say; merged again it is the same; and merging a merged beginning with the rest is merging all.
func TestMergeAsPlain(t *testing.T) {
	r := rand.New(rand.NewSource(107))
	for range 5000 {
		lists := someLists(r)
		want := plainMerge(lists...)
		wantList(t, "Merge", seq.Merge(lists...), want)
		wantList(t, "Merge again", seq.Merge(want), want)
		wantList(t, "Merge twice", seq.Merge(want, want), want)
		for n := range len(lists) + 1 {
			begun := append([][]item{seq.Merge(lists[:n]...)}, lists[n:]...)
			wantList(t, "Merge of a beginning", seq.Merge(begun...), want)
		}
	}
}

// TestMergeMany: P10.3: many lists, and long ones.
func TestMergeMany(t *testing.T) {
	var lists [][]seq.Item[int, int]
	for i := range 500 {
		var l []seq.Item[int, int]
		for k := i; k < 100000; k += 500 {
			l = append(l, seq.Item[int, int]{Key: k, Value: i}, seq.Item[int, int]{Key: k + 1, Value: i})
		}
		lists = append(lists, l)
	}
	merged := seq.Merge(lists...)
	if len(merged) != 100001 {
		t.Fatal("Merge", len(merged))
	}
	for k, x := range merged {
		want := k % 500
		if want > 0 { // the list ahead has it, too
			want--
		}
		if k == 100000 {
			want = 499
		}
		if x.Key != k || x.Value != want {
			t.Fatal("Merge", k, x, want)
		}
	}
}

// TestWithout: P10.3: a list sorted out, then without the keys.
func TestWithout(t *testing.T) {
	l := []item{{"a", 1}, {"b", 2}, {"c", 3}}
	for _, c := range []struct {
		l    []item
		keys []string
		want []item
	}{
		{l, nil, l},
		{l, []string{}, l},
		{l, []string{"b"}, []item{{"a", 1}, {"c", 3}}},
		{l, []string{"c", "a"}, []item{{"b", 2}}},
		{l, []string{"c", "b", "c", "a", "a"}, nil},
		{l, []string{"", "aa", "d", "0"}, l},
		{nil, []string{"a"}, nil},
		{nil, nil, nil},
		{[]item{{"b", 1}, {"a", 2}, {"c", 3}}, []string{"b"}, []item{{"c", 3}}},
		{[]item{{"b", 1}, {"b", 2}, {"a", 3}, {"c", 4}, {"c", 5}}, []string{"a"}, []item{{"b", 1}, {"c", 4}}},
		{[]item{{"b", 1}, {"b", 2}}, []string{"b"}, nil},
	} {
		wantList(t, "Without", seq.Without(c.l, c.keys), c.want)
	}
}

// TestWithoutAsPlain: P10.3: of any list and keys.
func TestWithoutAsPlain(t *testing.T) {
	r := rand.New(rand.NewSource(103))
	for range 5000 {
		l := someList(r)
		keys := make([]string, r.Intn(10))
		for i := range keys {
			keys[i] = string(rune('a' + r.Intn(14)))
		}
		want := slices.DeleteFunc(sortedOut(l), func(x item) bool { return slices.Contains(keys, x.Key) })
		wantList(t, "Without", seq.Without(l, keys), want)
	}
}

// TestSearch: P10.3: the first item whose key is k or above, and whether it is k's.
func TestSearch(t *testing.T) {
	l := []item{{"b", 1}, {"d", 2}, {"f", 3}}
	for _, c := range []struct {
		k     string
		place int
		there bool
	}{{"", 0, false}, {"a", 0, false}, {"b", 0, true}, {"b\x00", 1, false}, {"d", 1, true}, {"e", 2, false}, {"f", 2, true}, {"ff", 3, false}} {
		if place, there := seq.Search(l, c.k); place != c.place || there != c.there {
			t.Error("Search", c.k, place, there)
		}
		if place, there := seq.Search([]item{}, c.k); place != 0 || there {
			t.Error("Search of nothing", c.k, place, there)
		}
	}
	if place, there := seq.Search[string, int](nil, ""); place != 0 || there {
		t.Error("Search of nil", place, there)
	}
	r := rand.New(rand.NewSource(104))
	for range 5000 {
		l := someList(r)
		k := string(rune('a' + r.Intn(14)))
		place, there := seq.Search(l, k)
		if place < 0 || place > len(l) || there != (place < len(l) && l[place].Key == k) {
			t.Fatal("Search of any list", l, k, place, there)
		}
		sorted := sortedOut(l)
		want := slices.IndexFunc(sorted, func(x item) bool { return x.Key >= k })
		if want < 0 {
			want = len(sorted)
		}
		if place, there := seq.Search(sorted, k); place != want || there != (want < len(sorted) && sorted[want].Key == k) {
			t.Fatal("Search", sorted, k, place, there)
		}
	}
}

// TestListsAreLeft: R3: what is handed in, with the room behind it, is not changed; what is told is new memory.
func TestListsAreLeft(t *testing.T) {
	room := []item{{"b", 1}, {"a", 2}, {"c", 3}, {"x", 4}, {"y", 5}}
	keyRoom := []string{"z", "a", "y", "x"}
	before, keysBefore := slices.Clone(room), slices.Clone(keyRoom)
	l, keys := room[:3], keyRoom[:2]
	spoil := func(l []item) {
		l = l[:cap(l)]
		for i := range l {
			l[i] = item{"spoilt", 0}
		}
	}
	other := []item{{"d", 1}}
	lists := [][]item{l, nil, other}
	for range 2 {
		spoil(seq.Merge(lists...))
		spoil(seq.Merge(l))
		spoil(seq.Merge(room))
		spoil(seq.Without(l, keys))
		spoil(seq.Without(l, nil))
		seq.Search(l, "a")
		if !slices.Equal(room, before) || !slices.Equal(keyRoom, keysBefore) || other[0] != (item{"d", 1}) {
			t.Fatal("arguments are", room, keyRoom, other)
		}
		if len(lists[0]) != 3 || len(lists[1]) != 0 || len(lists[2]) != 1 {
			t.Fatal("the list of lists is", lists)
		}
	}
}

// TestNoNumbers: of floats that are not numbers: all calls end, and none panics.
func TestNoNumbers(t *testing.T) {
	r := rand.New(rand.NewSource(108))
	key := func() float64 {
		return []float64{math.NaN(), math.NaN(), 0, 1, -1, math.Inf(1), math.Inf(-1)}[r.Intn(7)]
	}
	for range 200 {
		h, m := seq.NewHeap[float64](), seq.NewMap[float64, int]()
		var l []seq.Item[float64, int]
		var keys []float64
		for i := range r.Intn(40) {
			h.Push(key())
			m.Put(key(), i)
			m.Delete(key())
			m.Get(key())
			m.Rank(key())
			l, keys = append(l, seq.Item[float64, int]{Key: key(), Value: i}), append(keys, key())
		}
		for range h.Len() + 1 {
			h.Pop()
		}
		for range m.Range(key(), key()) {
			m.Put(key(), 0)
		}
		for i := range m.Len() {
			m.At(i)
		}
		seq.Merge(l, l[len(l)/2:], nil, l)
		seq.Without(l, keys)
		if place, _ := seq.Search(l, key()); place < 0 || place > len(l) {
			t.Error("Search", place)
		}
		for k := range m.All() {
			m.Delete(k)
		}
	}
}
