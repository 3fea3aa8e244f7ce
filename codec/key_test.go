package codec_test

import (
	"cmp"
	"math"
	"math/rand"
	"slices"
	"strings"
	"testing"

	"dedup/api"
	"dedup/codec"
)

// TestKey: P2.4, the prefix, each number's 64 bits, the name.
func TestKey(t *testing.T) {
	cases := []struct {
		prefix  uint8
		numbers []uint64
		name    string
		want    string
	}{
		{0, nil, "", "\x00"},
		{'d', []uint64{1}, "a", "d\x00\x00\x00\x00\x00\x00\x00\x01a"},
		{255, []uint64{}, "name", "\xffname"},
		{'x', []uint64{0x0102030405060708, math.MaxUint64}, "\x00", "x\x01\x02\x03\x04\x05\x06\x07\x08\xff\xff\xff\xff\xff\xff\xff\xff\x00"},
		{'y', []uint64{0, 0, 0, 0}, "", "y" + strings.Repeat("\x00", 32)},
		{'z', nil, strings.Repeat("n", 1000), "z" + strings.Repeat("n", 1000)},
	}
	for _, c := range cases {
		if got, e := codec.Key(c.prefix, c.numbers, c.name); e != api.OK || got != c.want {
			t.Errorf("Key(%d, %v, %q): %q, error %d", c.prefix, c.numbers, c.name, got, e)
		}
	}
	for n := 5; n < 9; n++ {
		if got, e := codec.Key('d', make([]uint64, n), "a"); e != api.ErrArg || got != "" {
			t.Errorf("Key of %d numbers: %q, error %d", n, got, e)
		}
	}
}

// TestSplit: P2.4, the parts of a key, by each number of numbers.
func TestSplit(t *testing.T) {
	for numbers := range 5 {
		want := make([]uint64, numbers)
		for i := range want {
			want[i] = 0xf102030405060700 + uint64(i)
		}
		for _, name := range []string{"", "a", "\x00\xff", strings.Repeat("n", 100)} {
			key, _ := codec.Key('k', want, name)
			prefix, l, rest, e := codec.Split(key, numbers)
			if prefix != 'k' || !slices.Equal(l, want) || rest != name || e != api.OK {
				t.Errorf("Split(%q, %d): %d, %v, %q, error %d", key, numbers, prefix, l, rest, e)
			}
		}
	}
}

// TestSplitFaults: P2.4, numbers that may not be are told ahead of keys that are too short.
func TestSplitFaults(t *testing.T) {
	empty := func(prefix uint8, l []uint64, name string) bool {
		return prefix == 0 && len(l) == 0 && name == ""
	}
	for _, numbers := range []int{-1, 5, math.MinInt, math.MaxInt} {
		for _, key := range []string{"", "k", strings.Repeat("k", 100)} {
			if prefix, l, name, e := codec.Split(key, numbers); e != api.ErrArg || !empty(prefix, l, name) {
				t.Errorf("Split(%q, %d): error %d", key, numbers, e)
			}
		}
	}
	for numbers := range 5 {
		for n := range 1 + 8*numbers {
			key := strings.Repeat("k", n)
			if prefix, l, name, e := codec.Split(key, numbers); e != api.ErrShort || !empty(prefix, l, name) {
				t.Errorf("Split(%q, %d): error %d", key, numbers, e)
			}
		}
	}
}

// parts is a key's.
type parts struct {
	prefix  uint8
	numbers []uint64
	name    string
}

// compareParts is the order that keys should have.
func compareParts(a, b parts) int {
	return cmp.Or(cmp.Compare(a.prefix, b.prefix), slices.Compare(a.numbers, b.numbers), cmp.Compare(a.name, b.name))
}

// TestKeyOrder: P2.8, keys with as many numbers each are in the order of their parts.
func TestKeyOrder(t *testing.T) {
	dice := rand.New(rand.NewSource(3))
	edges := []uint64{0, 1, 127, 128, 255, 256, 1 << 31, 1 << 32, 1 << 63, math.MaxInt64, math.MaxUint64}
	names := []string{"", "\x00", "a", "a\x00", "aa", "b", "\x7f", "\x80", "\xff", "\xff\xff"}
	prefixes := []uint8{0, 1, 127, 128, 255}
	roll := func(count int) parts {
		p := parts{prefix: prefixes[dice.Intn(len(prefixes))], name: names[dice.Intn(len(names))]}
		for range count {
			p.numbers = append(p.numbers, edges[dice.Intn(len(edges))])
		}
		return p
	}
	for round := range 20000 {
		count := round % 5
		a, b := roll(count), roll(count)
		b.prefix = a.prefix
		if dice.Intn(2) == 0 && count > 0 {
			b.numbers[0] = a.numbers[0]
		}
		if dice.Intn(4) == 0 {
			b = roll(count)
		}
		left, _ := codec.Key(a.prefix, a.numbers, a.name)
		right, _ := codec.Key(b.prefix, b.numbers, b.name)
		if strings.Compare(left, right) != compareParts(a, b) {
			t.Fatalf("the keys of %v and %v: %q and %q", a, b, left, right)
		}
	}
}

// TestKeyLeavesNumbers: R3, the numbers that are handed in are not changed, and those that are told are new.
func TestKeyLeavesNumbers(t *testing.T) {
	room := []uint64{1, 2, 3, 4, 5}
	key, _ := codec.Key('k', room[:3], "n")
	if !slices.Equal(room, []uint64{1, 2, 3, 4, 5}) {
		t.Error("the numbers became", room)
	}
	_, first, _, _ := codec.Split(key, 3)
	clear(first[:cap(first)])
	if _, second, _, _ := codec.Split(key, 3); !slices.Equal(second, room[:3]) {
		t.Error("numbers that were told share memory", second)
	}
}
