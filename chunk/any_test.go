package chunk_test

import (
	"math/rand"
	"strings"
	"testing"

	"dedup/api"
	"dedup/chunk"
	"dedup/disk"
	"dedup/tree"
)

// anyTree is a tree whose records were spoilt by chance: records that do not agree with one another, or are none.
func anyTree(r *rand.Rand, x *tree.Tree) *tree.Tree {
	some := func() int {
		return []int{0, 1, 2, 3, 24, 35, 1024, api.MaxNumber, api.MaxNumber + 1, 1<<32 - 1}[r.Intn(10)]
	}
	for range 1 + r.Intn(6) {
		id := r.Intn(8)
		switch r.Intn(8) {
		case 0:
			x, _ = x.Put(keyOf('c', id), chunkValue(some(), some(), some(), some()))
		case 1:
			sum := sumOf([]byte("a"), 256)
			x, _ = x.Put(keyOf('c', id), string(sum[:])+numbers(r.Intn(4), 24, 1+r.Intn(2), 1+r.Intn(2)))
		case 2:
			x, _ = x.Put(keyOf('k', id), numbers(some(), some(), some()))
		case 3:
			x, _ = x.Put(keyOf('k', id), numbers(6+r.Intn(9), 3, r.Intn(3)))
		case 4:
			x, _ = x.Put("s", numbers(some(), some(), some()))
		case 5:
			x, _ = x.Put(string("ck"[r.Intn(2)])+strings.Repeat("y", r.Intn(12)), "")
		case 6:
			x, _ = x.Delete(keyOf('k', id))
		case 7:
			x, _ = x.Delete(keyOf('c', id))
		}
	}
	return x
}

// TestAnyTree: P15.6 with R1 and R2: of trees whose records are not as they should be each call ends, and beside an error nothing has changed.
func TestAnyTree(t *testing.T) {
	r := rand.New(rand.NewSource(1506))
	for range 1500 {
		s := someShape()
		s.Dedup, s.Bits = r.Intn(3) > 0, []int{0, 256}[r.Intn(2)]
		d, _ := disk.New(512, 64)
		b := bookOn(t, s, treeOf(t, nil), d)
		for _, data := range []string{"a", "b", strings.Repeat("c", 970), "d", "a"} {
			b.Put([]byte(data))
		}
		if r.Intn(2) == 0 {
			write(t, b, d)
		}
		x := anyTree(r, b.Tree())
		if r.Intn(2) == 0 {
			b.Set(x)
		} else if other, e := chunk.New(s, x, b.Space(), d); e == api.OK {
			b = other
		}
		for range 6 {
			anyCall(t, r, b)
		}
	}
}

// anyCall does something by chance to a book.
func anyCall(t *testing.T, r *rand.Rand, b *chunk.Book) {
	t.Helper()
	was, id := stateOf(b), r.Intn(8)
	var e api.Errno
	switch r.Intn(6) {
	case 0:
		_, e = b.Put([]byte{byte('a' + r.Intn(5))})
	case 1:
		_, e = b.Put(make([]byte, roomOf-r.Intn(40)))
	case 2:
		e = b.Incr(id)
	case 3:
		e = b.Decr(id)
	case 4:
		e = b.Move(id)
	case 5:
		e = b.Drop(id)
	}
	if e != api.OK && e != api.ErrChunk && e != api.ErrFull {
		t.Error("told", e)
	}
	if e != api.OK {
		wantSame(t, "what was refused", b, was)
	}
}
