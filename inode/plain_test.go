package inode_test

import (
	"maps"
	"math/rand"
	"slices"
	"testing"

	"dedup/api"
	"dedup/inode"
	"dedup/tree"
)

// plain is inodes by the chapter's words: a map of them, one of marks, and the next number.
type plain struct {
	inodes map[int]api.Inode
	marks  map[int]bool
	next   int
}

// pairs is the keys and values of a tree with these.
func (p plain) pairs() map[string]string {
	l := map[string]string{"h": "other", "x": "other", "s": numbers(p.next, 5, 6)}
	for number, a := range p.inodes {
		l[keyOf('i', number)] = valueOf(1, a.Size, a.Links, 0)
		if a.Dir {
			l[keyOf('i', number)] = valueOf(2, 0, a.Links, a.Parent)
		}
	}
	for number := range p.marks {
		l[keyOf('o', number)] = ""
	}
	return l
}

// right tells whether the marks are of inodes that are there.
func (p plain) right() api.Errno {
	for number := range p.marks {
		if _, there := p.inodes[number]; !there {
			return api.ErrInode
		}
	}
	return api.OK
}

// wantAsPlain holds all that is told of a tree's inodes against the plain ones.
func wantAsPlain(t *testing.T, x *tree.Tree, p plain) {
	t.Helper()
	wantPairs(t, x, p.pairs())
	var all []api.Inode
	for _, number := range slices.Sorted(maps.Keys(p.inodes)) {
		all = append(all, p.inodes[number])
	}
	wantAll(t, "as plain", x, all...)
	wantOrphans(t, "as plain", x, slices.Sorted(maps.Keys(p.marks))...)
	wantCounters(t, "as plain", x, p.next, 5, 6, api.OK)
	if e := inode.Right(x); e != p.right() {
		t.Fatal("Right", e, "want", p.right())
	}
	for number := range p.next + 2 {
		a, there := p.inodes[number]
		why := api.OK
		if !there {
			why = api.ErrNone
		}
		wantGet(t, "as plain", x, number, a, why)
	}
}

// step does something by chance to both: the tree then, and what was told.
func (p *plain) step(r *rand.Rand, x *tree.Tree) (y *tree.Tree, got, want api.Errno) {
	number := 1 + r.Intn(p.next+1)
	a, there := p.inodes[number]
	if !there {
		want = api.ErrNone
	}
	switch r.Intn(6) {
	case 0:
		a = api.Inode{Number: p.next, Dir: r.Intn(2) == 0}
		if a.Dir {
			a.Parent = 1 + r.Intn(p.next)
		}
		var b api.Inode
		y, b, got = inode.New(x, a.Dir, a.Parent)
		if a != b {
			got = api.ErrIO // another one than that of the words
		}
		p.inodes[a.Number] = a
		p.next++
		return y, got, api.OK
	case 1:
		number = 1 + r.Intn(p.next-1) // one that was given, there or not
		a = aFile(number, r.Intn(api.MaxFile+1), r.Intn(3))
		y, got = inode.Put(x, a)
		p.inodes[number] = a
		return y, got, api.OK
	case 2:
		if p.marks[number] && r.Intn(4) > 0 {
			return x, api.OK, api.OK
		}
		y, got = inode.Remove(x, number)
		delete(p.inodes, number)
	case 3:
		by := r.Intn(2*api.MaxLinks) - api.MaxLinks
		y, _, got = inode.Link(x, number, by)
		if there && (a.Links+by < 0 || a.Links+by > api.MaxLinks) {
			want = api.ErrFull
		}
		if a.Links += by; want == api.OK {
			p.inodes[number] = a
		}
	case 4:
		if y, got = inode.Orphan(x, number); there {
			p.marks[number] = true
		}
	case 5:
		y, got = inode.Adopt(x, number)
		want = api.OK
		if !p.marks[number] {
			want = api.ErrNone
		}
		delete(p.marks, number)
	}
	return y, got, want
}

// TestAsPlain: P18.1 to P18.6: whatever is made, put, linked, removed, marked, all is told as by the plain ones; numbers rise, and none is given twice; what is right stays so.
func TestAsPlain(t *testing.T) {
	r := rand.New(rand.NewSource(18))
	for range 12 {
		x := treeOf(t, map[string]string{"h": "other", "x": "other"})
		x, _ = inode.SetCounters(x, 1, 5, 6)
		x = mustNew(t, x, true, 1, 1)
		p := plain{inodes: map[int]api.Inode{1: aDir(1, 0, 1)}, marks: map[int]bool{}, next: 2}
		for range 250 {
			y, got, want := p.step(r, x)
			if got != want || (y == nil) != (got != api.OK) {
				t.Fatal("told", got, "want", want)
			}
			if got == api.OK {
				x = y
			}
			wantAsPlain(t, x, p)
		}
		if len(p.inodes) < 5 || len(p.marks) < 1 || x.Check() != api.OK {
			t.Error("too few", len(p.inodes), len(p.marks))
		}
	}
}

// TestStaysRight: P18.6: a tree that is right stays so, call by call, where none with a mark is removed.
func TestStaysRight(t *testing.T) {
	r := rand.New(rand.NewSource(186))
	x := mustNew(t, treeOf(t, nil), true, 1, 1)
	last, given := 1, []int{1}
	for range 600 {
		number := given[r.Intn(len(given))]
		marks, _ := inode.Orphans(x)
		y, e := x, api.OK
		switch r.Intn(6) {
		case 0, 1:
			var a api.Inode
			if y, a, e = inode.New(x, r.Intn(2) == 0, 0); e == api.ErrInode {
				y, a, e = inode.New(x, true, number)
			}
			if a.Number <= last {
				t.Fatal("New gives", a.Number, "behind", last)
			}
			last, given = a.Number, append(given, a.Number)
		case 2:
			y, e = inode.Put(x, aDir(number, r.Intn(9), 1+r.Intn(9)))
		case 3:
			if !slices.Contains(marks, number) {
				y, e = inode.Remove(x, number)
			}
		case 4:
			y, e = inode.Orphan(x, number)
		case 5:
			y, e = inode.Adopt(x, number)
		}
		if e == api.OK {
			x = y
		}
		if e := inode.Right(x); e != api.OK {
			t.Fatal("Right", e)
		}
	}
	if n := len(slices.Collect(inode.All(x))); n < 20 || last < 150 {
		t.Error("too few", n, last)
	}
}
