package extent_test

import (
	"maps"
	"math/rand"
	"slices"
	"testing"

	"dedup/api"
	"dedup/extent"
	"dedup/tree"
)

// plain is the extents of inodes by the chapter's words: for each inode those at its offsets, which are looked at byte by byte.
type plain map[int]map[int]api.Extent

func (p plain) all(ino int) []api.Extent {
	var l []api.Extent
	for _, offset := range slices.Sorted(maps.Keys(p[ino])) {
		l = append(l, p[ino][offset])
	}
	return l
}

// has tells whether an extent has a byte.
func has(x api.Extent, at int) bool {
	return at >= x.Offset && at < x.Offset+x.Length
}

// over is the extents that have a byte of a range, looked for byte by byte.
func (p plain) over(ino, from, to int) []api.Extent {
	var l []api.Extent
	for _, x := range p.all(ino) {
		for at := from; at < to; at++ {
			if has(x, at) {
				l = append(l, x)
				break
			}
		}
	}
	return l
}

func (p plain) holes(ino, size int) []api.Area {
	var l []api.Area
	for at := range size {
		if slices.ContainsFunc(p.all(ino), func(x api.Extent) bool { return has(x, at) }) {
			continue
		}
		if n := len(l) - 1; n >= 0 && l[n].First+l[n].Count == at {
			l[n].Count++
		} else {
			l = append(l, api.Area{First: at, Count: 1})
		}
	}
	return l
}

func (p plain) refs() []api.Ref {
	count := map[int]int{}
	for _, l := range p {
		for _, x := range l {
			count[x.Chunk]++
		}
	}
	var l []api.Ref
	for _, chunk := range slices.Sorted(maps.Keys(count)) {
		l = append(l, api.Ref{Chunk: chunk, Count: count[chunk]})
	}
	return l
}

// pairs is the keys and values of a tree with these extents.
func (p plain) pairs() map[string]string {
	l := map[string]string{"w": "other", "y": "other"}
	for ino, extents := range p {
		for _, x := range extents {
			l[key(ino, x.Offset)] = value(x.Chunk, x.Length)
		}
	}
	return l
}

// wantAsPlain holds all that is told of a tree's extents against the plain ones.
func wantAsPlain(t *testing.T, x *tree.Tree, p plain, r *rand.Rand) {
	t.Helper()
	wantPairs(t, x, p.pairs())
	ino, from, size := r.Intn(5), r.Intn(130)-10, r.Intn(130)
	to := from + r.Intn(40) - 5
	wantAll(t, x, ino, p.all(ino)...)
	wantHoles(t, x, ino, size, p.holes(ino, size)...)
	if l, e := extent.Over(x, ino, from, to); e != api.OK || !slices.Equal(l, p.over(ino, from, to)) {
		t.Fatal("Over", ino, from, to, l, e, "want", p.over(ino, from, to))
	}
	if l, e := extent.Refs(x); e != api.OK || !slices.Equal(l, p.refs()) {
		t.Fatal("Refs", l, e, "want", p.refs())
	}
	if e := extent.Right(x); e != api.OK {
		t.Fatal("Right", e)
	}
}

// TestAsPlain: P16.1 to P16.5: whatever is put and cut, all is told as by the plain ones, which look at each byte.
func TestAsPlain(t *testing.T) {
	r := rand.New(rand.NewSource(16))
	for range 20 {
		x, p := treeOf(t, map[string]string{"w": "other", "y": "other"}), plain{}
		for range 150 {
			ino := r.Intn(4)
			if p[ino] == nil {
				p[ino] = map[int]api.Extent{}
			}
			if r.Intn(4) > 0 {
				a := ext(r.Intn(110), 1+r.Intn(12), 1+r.Intn(9))
				want := api.OK
				if len(p.over(ino, a.Offset, a.Offset+a.Length)) > 0 {
					want = api.ErrExtent
				}
				y, e := extent.Put(x, ino, a)
				if e != want {
					t.Fatal("Put", ino, a, e, "want", want)
				}
				if e == api.OK {
					x, p[ino][a.Offset] = y, a
				}
			} else {
				x = cutAsPlain(t, x, p, r, ino)
			}
			wantAsPlain(t, x, p, r)
		}
	}
}

// cutAsPlain cuts a range out of both; and P16.5: put again, one by one, what was cut out makes the tree as it was.
func cutAsPlain(t *testing.T, x *tree.Tree, p plain, r *rand.Rand, ino int) *tree.Tree {
	t.Helper()
	from := r.Intn(120)
	to := from + r.Intn(30)
	want := p.over(ino, from, to)
	was := pairsOf(x)
	y, l, e := extent.Cut(x, ino, from, to)
	if e != api.OK || !slices.Equal(l, want) {
		t.Fatal("Cut", ino, from, to, l, e, "want", want)
	}
	again := y
	for _, i := range r.Perm(len(l)) {
		again = mustPut(t, again, ino, l[i])
	}
	wantPairs(t, again, was)
	wantPairs(t, x, was)
	for _, a := range l {
		delete(p[ino], a.Offset)
	}
	return y
}

// TestMany: P16.1 to P16.5: of an inode with so many extents that they lie in many nodes.
func TestMany(t *testing.T) {
	x, _ := tree.New(512)
	const many = 600
	r := rand.New(rand.NewSource(160))
	for _, i := range r.Perm(many) {
		x = mustPut(t, x, 7, ext(3*i, 2, i+1))
	}
	l, e := extent.All(x, 7)
	if e != api.OK || len(l) != many {
		t.Fatal("All", len(l), e)
	}
	for i, a := range l {
		if a != ext(3*i, 2, i+1) {
			t.Fatal("All", i, a)
		}
	}
	if n := len(slices.Collect(extent.Holes(x, 7, 3*many))); n != many {
		t.Error("Holes", n)
	}
	y, gone, e := extent.Cut(x, 7, 31, 3*many-30)
	if e != api.OK || len(gone) != many-20 || x.Check() != api.OK || y.Check() != api.OK {
		t.Error("Cut", len(gone), e)
	}
	count := 0
	refs, _ := extent.Refs(x)
	for _, ref := range refs {
		count += ref.Count
	}
	if count != many {
		t.Error("Refs come to", count)
	}
}
