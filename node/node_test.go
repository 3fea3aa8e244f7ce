package node_test

import (
	"fmt"
	"math"
	"slices"
	"strings"
	"testing"

	"dedup/api"
	"dedup/node"
)

// leaf is a leaf of keys and values in turn.
func leaf(l ...string) api.Node {
	n := api.Node{Leaf: true}
	for i := 0; i+1 < len(l); i += 2 {
		n.Keys = append(n.Keys, l[i])
		n.Values = append(n.Values, l[i+1])
	}
	return n
}

// inner is an inner node of the kids 1, 2, .., one more than keys.
func inner(keys ...string) api.Node {
	n := api.Node{Keys: keys}
	for i := range len(keys) + 1 {
		n.Kids = append(n.Kids, i+1)
	}
	return n
}

// long is a text of n bytes.
func long(n int) string {
	return strings.Repeat("k", n)
}

// same tells whether two nodes are alike; nil and an empty list are.
func same(a, b api.Node) bool {
	return a.Leaf == b.Leaf && slices.Equal(a.Keys, b.Keys) && slices.Equal(a.Values, b.Values) && slices.Equal(a.Kids, b.Kids)
}

// wantErr holds an error.
func wantErr(t *testing.T, what string, got, want api.Errno) {
	t.Helper()
	if got != want {
		t.Errorf("%s: error %d, want %d", what, got, want)
	}
}

// wantNode holds a node and the error beside it.
func wantNode(t *testing.T, what string, got api.Node, e api.Errno, want api.Node) {
	t.Helper()
	if e != api.OK || !same(got, want) {
		t.Errorf("%s: %+v, error %d, want %+v", what, got, e, want)
	}
}

// wantNoNode holds that there is none beside an error.
func wantNoNode(t *testing.T, what string, got api.Node, e, want api.Errno) {
	t.Helper()
	if e != want || !same(got, api.Node{}) {
		t.Errorf("%s: %+v, error %d, want %d", what, got, e, want)
	}
}

// refused is nodes that may not be, by why.
func refused() map[string]struct {
	n api.Node
	e api.Errno
} {
	type row = struct {
		n api.Node
		e api.Errno
	}
	return map[string]row{
		"a value too few":             {api.Node{Leaf: true, Keys: []string{"a", "b"}, Values: []string{"1"}}, api.ErrNode},
		"a value too many":            {api.Node{Leaf: true, Keys: []string{"a"}, Values: []string{"1", "2"}}, api.ErrNode},
		"a leaf's value without keys": {api.Node{Leaf: true, Values: []string{""}}, api.ErrNode},
		"a leaf with a kid":           {api.Node{Leaf: true, Keys: []string{"a"}, Values: []string{"1"}, Kids: []int{3}}, api.ErrNode},
		"a leaf with kids":            {api.Node{Leaf: true, Keys: []string{"a"}, Values: []string{"1"}, Kids: []int{3, 4}}, api.ErrNode},
		"an empty leaf with a kid":    {api.Node{Leaf: true, Kids: []int{3}}, api.ErrNode},
		"keys that fall":              {leaf("b", "1", "a", "2"), api.ErrNode},
		"a key twice":                 {leaf("a", "1", "b", "2", "b", "3"), api.ErrNode},
		"an inner one's keys fall":    {inner("b", "a"), api.ErrNode},
		"an inner one's key twice":    {inner("a", "a"), api.ErrNode},
		"signed bytes":                {leaf("\x80", "", "\x7f", ""), api.ErrNode},
		"no keys":                     {api.Node{Kids: []int{3}}, api.ErrNode},
		"nothing":                     {api.Node{}, api.ErrNode},
		"no keys, two kids":           {api.Node{Kids: []int{3, 4}}, api.ErrNode},
		"a kid too few":               {api.Node{Keys: []string{"a"}, Kids: []int{1}}, api.ErrNode},
		"a kid too many":              {api.Node{Keys: []string{"a"}, Kids: []int{1, 2, 3}}, api.ErrNode},
		"an inner one with values":    {api.Node{Keys: []string{"a"}, Values: []string{"1"}, Kids: []int{1, 2}}, api.ErrNode},
		"an inner one's empty value":  {api.Node{Keys: []string{"a"}, Values: []string{""}, Kids: []int{1, 2}}, api.ErrNode},
		"a kid below 0":               {api.Node{Keys: []string{"a"}, Kids: []int{1, -1}}, api.ErrNode},
		"the least kid":               {api.Node{Keys: []string{"a"}, Kids: []int{math.MinInt, 1}}, api.ErrNode},
		"a kid of 2^32":               {api.Node{Keys: []string{"a"}, Kids: []int{1 << 32, 1}}, api.ErrNode},
		"the greatest kid":            {api.Node{Keys: []string{"a"}, Kids: []int{1, math.MaxInt}}, api.ErrNode},
		"an empty key":                {leaf("", "1", "a", "2"), api.ErrEntry},
		"a long key":                  {leaf("a", "1", long(65), "2"), api.ErrEntry},
		"a far too long key":          {leaf(long(257), "2"), api.ErrEntry},
		"a long value":                {leaf("a", "1", "b", long(65)), api.ErrEntry},
		"a far too long value":        {leaf("b", long(256)), api.ErrEntry},
		"an inner one's empty key":    {inner(""), api.ErrEntry},
		"an inner one's long key":     {inner("a", long(65)), api.ErrEntry},
		"an empty key that falls":     {leaf("a", "1", "", "2"), api.ErrEntry},
		"a long key and no value":     {api.Node{Leaf: true, Keys: []string{long(65)}}, api.ErrEntry},
		"a long key and no kids":      {api.Node{Keys: []string{"b", long(65)}}, api.ErrEntry},
		"a long value of too many":    {api.Node{Leaf: true, Values: []string{long(65)}}, api.ErrEntry},
		"an inner one's long value":   {api.Node{Values: []string{long(65)}, Kids: []int{1}}, api.ErrEntry},
		"an empty key, a kid below 0": {api.Node{Keys: []string{""}, Kids: []int{1, -1}}, api.ErrEntry},
	}
}

// taken is nodes that may be.
func taken() []api.Node {
	return []api.Node{
		{Leaf: true},
		leaf("a", ""),
		leaf("a", "1", "bb", "22"),
		leaf("\x00", long(64), "\x00\x00", "", long(64), long(64)),
		leaf("a", "", "a\x00", "", "b", "", "\x7f", "", "\x80", "", "\xff\xff", ""),
		inner("m"),
		inner("a", "b", "c", "d"),
		inner(long(63), long(64)),
		{Keys: []string{"m"}, Kids: []int{0, 1<<32 - 1}},
		{Keys: []string{"m", "n"}, Kids: []int{7, 7, 7}},
	}
}

// TestCheck: P9.1: which nodes may be; lengths are looked at first.
func TestCheck(t *testing.T) {
	for what, c := range refused() {
		wantErr(t, what, node.Check(c.n), c.e)
	}
	for _, n := range taken() {
		wantErr(t, fmt.Sprintf("%+v", n), node.Check(n), api.OK)
	}
	var many []string
	for i := range 70000 {
		many = append(many, fmt.Sprintf("%06d", i), "")
	}
	wantErr(t, "70000 keys", node.Check(leaf(many...)), api.OK)
}

// TestSize: P9.1: 16 and the entries' bytes; 20 of an inner node without keys.
func TestSize(t *testing.T) {
	for _, c := range []struct {
		n    api.Node
		want int
	}{
		{api.Node{Leaf: true}, 16},
		{leaf("a", "1", "bb", "22"), 26},
		{leaf("a", ""), 19},
		{leaf("a", long(64), long(64), long(64)), 16 + 67 + 130},
		{api.Node{Keys: []string{"m"}, Kids: []int{5, 9}}, 26},
		{api.Node{Keys: []string{"m"}, Kids: []int{1<<32 - 1, 0}}, 26},
		{inner("a", "bb", long(64)), 20 + 6 + 7 + 69},
		{api.Node{Kids: []int{5}}, 20},
	} {
		if got := node.Size(c.n); got != c.want {
			t.Errorf("Size of %+v: %d, want %d", c.n, got, c.want)
		}
	}
}

// TestAnyNode: R1, R3: no call panics or changes what it is given, whatever node that is.
func TestAnyNode(t *testing.T) {
	nodes := taken()
	for _, c := range refused() {
		nodes = append(nodes, c.n)
	}
	for _, n := range nodes {
		before := fmt.Sprintf("%#v", n)
		for _, key := range []string{"", "a", "b", "m", "zz", long(64), long(65)} {
			node.Size(n)
			node.Find(n, key)
			node.Put(n, key, key)
			node.Remove(n, key)
			node.Split(n)
			for _, other := range nodes {
				node.Join(n, key, other)
			}
			for _, size := range []int{-1, 0, 512, 4096} {
				node.Encode(size, n)
			}
		}
		if after := fmt.Sprintf("%#v", n); after != before {
			t.Errorf("%s is %s now", before, after)
		}
	}
}
