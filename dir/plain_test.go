package dir_test

import (
	"maps"
	"math/rand"
	"slices"
	"testing"

	"dedup/api"
	"dedup/dir"
	"dedup/tree"
)

// named is what an entry names.
type named struct {
	number int
	isDir  bool
}

// plain is directories by the chapter's words: a map of names each.
type plain map[int]map[string]named

// pairs is the keys and values of a tree with these.
func (p plain) pairs() map[string]string {
	l := map[string]string{"c\xFF": "other", "e": "other"}
	for in, names := range p {
		for name, to := range names {
			kind := byte(1)
			if to.isDir {
				kind = 2
			}
			l[keyOf(in, name)] = valueOf(to.number, kind)
		}
	}
	return l
}

// refs is how many entries name each inode.
func (p plain) refs() []api.Ref {
	counts := map[int]int{}
	for _, names := range p {
		for _, to := range names {
			counts[to.number]++
		}
	}
	var l []api.Ref
	for _, number := range slices.Sorted(maps.Keys(counts)) {
		l = append(l, api.Ref{Chunk: number, Count: counts[number]})
	}
	return l
}

// wantAsPlain holds all that is told of a tree's directories against the plain ones.
func wantAsPlain(t *testing.T, x *tree.Tree, p plain, dirs []int, names []string) {
	t.Helper()
	wantPairs(t, x, p.pairs())
	wantRefs(t, "as plain", x, api.OK, p.refs()...)
	for _, in := range dirs {
		var l []item
		for _, name := range slices.Sorted(maps.Keys(p[in])) {
			l = append(l, item{name, p[in][name].number})
		}
		wantList(t, x, in, l...)
		for _, name := range names {
			if to, there := p[in][name]; there {
				wantGet(t, x, in, name, to.number, to.isDir)
			} else {
				wantNoGet(t, x, in, name, api.ErrNone)
			}
		}
	}
}

// TestAsPlain: P19.1 to P19.4: whatever is put and removed, all is told as by plain maps: what was put last and not removed, each directory by itself.
func TestAsPlain(t *testing.T) {
	r := rand.New(rand.NewSource(19))
	dirs := []int{1, 2, 255, 256, api.MaxNumber}
	var names []string
	for range 24 {
		name := make([]byte, 1+r.Intn(api.MaxName))
		for i := range name {
			name[i] = "\x01ab\xFF"[r.Intn(4)]
		}
		names = append(names, string(name))
	}
	names = append(names, "a", "aa", "b", "...", "\xFF")
	for range 8 {
		x, p := treeOf(t, map[string]string{"c\xFF": "other", "e": "other"}), plain{}
		for _, in := range dirs {
			p[in] = map[string]named{}
		}
		for range 150 {
			in, name := dirs[r.Intn(len(dirs))], names[r.Intn(len(names))]
			if r.Intn(3) > 0 {
				to := named{1 + r.Intn(9), r.Intn(2) == 0}
				x = mustPut(t, x, in, name, to.number, to.isDir)
				p[in][name] = to
			} else if y, e := dir.Remove(x, in, name); p[in][name] == (named{}) {
				wantNoTree(t, "Remove", y, e, api.ErrNone)
			} else {
				x = must(t, y, e)
				delete(p[in], name)
			}
			wantAsPlain(t, x, p, dirs, names)
		}
		if x.Check() != api.OK || x.Height() < 2 {
			t.Error("the tree", x.Check(), x.Height())
		}
	}
}

// TestAnyKeys: P19.1 to P19.3: of any keys and values calls tell what the words say of them, key by key.
func TestAnyKeys(t *testing.T) {
	r := rand.New(rand.NewSource(193))
	values := []string{valueOf(5, 1), valueOf(5, 1), valueOf(6, 2), valueOf(6, 2), valueOf(0, 1), valueOf(5, 3), "", "?"}
	for range 4000 {
		l := map[string]string{}
		for range r.Intn(6) {
			key := keyOf([]int{255, 256, 256, 257}[r.Intn(4)], []string{"", "a", "b", "c", "d", "..", "a/"}[r.Intn(7)])
			if r.Intn(9) == 0 {
				key = key[:r.Intn(len(key))]
			}
			l[key] = values[r.Intn(len(values))]
		}
		delete(l, "") // no tree's key
		x := treeOf(t, l)
		for _, in := range []int{255, 256, 257} {
			wantByKeys(t, x, l, in)
		}
	}
}

// isEntry tells by the words whether a key and a value that may stand in these tests are an entry's.
func isEntry(key, value string) bool {
	name := ""
	if len(key) > 9 {
		name = key[9:]
	}
	mayName := name == "a" || name == "b" || name == "c" || name == "d"
	return mayName && (value == valueOf(5, 1) || value == valueOf(6, 2))
}

// wantByKeys holds what is told of a directory against the keys and values one by one.
func wantByKeys(t *testing.T, x *tree.Tree, l map[string]string, in int) {
	t.Helper()
	var want []item
	why, all := api.OK, api.OK
	for _, key := range slices.Sorted(maps.Keys(l)) {
		ok := isEntry(key, l[key])
		if !ok && key[0] == 'd' {
			all = api.ErrDir
		}
		if key < keyOf(in, "") || key >= keyOf(in+1, "") {
			continue
		}
		if !ok {
			why = api.ErrDir
			continue
		}
		want = append(want, item{key[9:], int(l[key][3])})
	}
	if got := listed(x, in); !slices.Equal(got, want) {
		t.Errorf("%q: List %d %v, want %v", l, in, got, want)
	}
	if why == api.OK {
		wantList(t, x, in, want...)
	} else {
		wantNoNames(t, "any keys", x, in, why)
	}
	if got, e := dir.Refs(x); e != all || e != api.OK && len(got) != 0 {
		t.Errorf("%q: Refs %v %d", l, got, e)
	}
}
