package handle_test

import (
	"math"
	"slices"
	"testing"

	"dedup/api"
	"dedup/handle"
)

// wantOpen holds which descriptor is opened.
func wantOpen(t *testing.T, h *handle.Table, inode, flags, want int) {
	t.Helper()
	if n, e := h.Open(inode, flags); n != want || e != api.OK {
		t.Error("Open", inode, flags, n, e, "want", want)
	}
}

// wantNoOpen holds why none is opened.
func wantNoOpen(t *testing.T, h *handle.Table, inode int, want api.Errno) {
	t.Helper()
	if n, e := h.Open(inode, 1); n != 0 || e != want {
		t.Error("Open", inode, n, e, "want", want)
	}
}

// wantClose holds what the close of a descriptor tells.
func wantClose(t *testing.T, h *handle.Table, number, inode int, last bool) {
	t.Helper()
	if i, l, e := h.Close(number); i != inode || l != last || e != api.OK {
		t.Error("Close", number, i, l, e, "want", inode, last)
	}
}

// wantNotOpen holds that a descriptor is not open.
func wantNotOpen(t *testing.T, h *handle.Table, number int) {
	t.Helper()
	if g, e := h.Get(number); g != (api.Handle{}) || e != api.EBadF {
		t.Error("Get", number, g, e)
	}
	if i, last, e := h.Close(number); i != 0 || last || e != api.EBadF {
		t.Error("Close", number, i, last, e)
	}
}

// wantAll holds which descriptors are open, by All and one by one.
func wantAll(t *testing.T, h *handle.Table, want ...api.Handle) {
	t.Helper()
	if l := h.All(); !slices.Equal(l, want) {
		t.Error("All", l, "want", want)
	}
	for _, x := range want {
		if g, e := h.Get(x.Number); g != x || e != api.OK {
			t.Error("Get", x.Number, g, e, "want", x)
		}
	}
}

// wantInodes holds on which inodes some are open.
func wantInodes(t *testing.T, h *handle.Table, want ...int) {
	t.Helper()
	if l := h.Inodes(); !slices.Equal(l, want) {
		t.Error("Inodes", l, "want", want)
	}
}

// wantCount holds how many are open on an inode.
func wantCount(t *testing.T, h *handle.Table, inode, want int) {
	t.Helper()
	if n := h.Count(inode); n != want {
		t.Error("Count", inode, n, "want", want)
	}
}

// full is a table all of whose descriptors are open, on the inodes 1 to 64.
func full(t *testing.T) *handle.Table {
	t.Helper()
	h := handle.New()
	for n := range api.MaxHandles {
		wantOpen(t, h, n+1, n, n)
	}
	return h
}

// TestNew: P24.1: all are free.
func TestNew(t *testing.T) {
	h := handle.New()
	wantAll(t, h)
	wantInodes(t, h)
	for n := -2; n < api.MaxHandles+2; n++ {
		wantNotOpen(t, h, n)
		wantCount(t, h, n, 0)
	}
	wantOpen(t, handle.New(), 1, 0, 0)
	wantAll(t, h) // another one's
}

// TestExample: P24.1, P24.3: the chapter's example.
func TestExample(t *testing.T) {
	h := handle.New()
	wantOpen(t, h, 5, 0, 0)
	wantOpen(t, h, 5, 0, 1)
	wantOpen(t, h, 7, 0, 2)
	wantClose(t, h, 0, 5, false)
	wantOpen(t, h, 9, 0, 0)
	wantClose(t, h, 1, 5, true)
	wantInodes(t, h, 7, 9)
}

// TestOpen: P24.1: which inodes may be opened; any flags are told again.
func TestOpen(t *testing.T) {
	h := handle.New()
	for _, inode := range []int{0, -1, -64, math.MinInt} {
		wantNoOpen(t, h, inode, api.EInval)
	}
	wantAll(t, h)
	wantOpen(t, h, 1, 7, 0)
	wantOpen(t, h, math.MaxInt, -1, 1)
	wantOpen(t, h, api.MaxNumber, math.MinInt, 2)
	wantOpen(t, h, 1, 0, 3)
	wantOpen(t, h, 2, math.MaxInt, 4)
	wantAll(t, h, api.Handle{Number: 0, Inode: 1, Flags: 7}, api.Handle{Number: 1, Inode: math.MaxInt, Flags: -1}, api.Handle{Number: 2, Inode: api.MaxNumber, Flags: math.MinInt}, api.Handle{Number: 3, Inode: 1}, api.Handle{Number: 4, Inode: 2, Flags: math.MaxInt})
}

// TestFull: P24.1, P24.3: 64 of them; EMFile ahead of EInval; what is free again is given, the least one first.
func TestFull(t *testing.T) {
	h := full(t)
	before := h.All()
	if len(before) != 64 {
		t.Error("All", len(before))
	}
	for _, inode := range []int{1, 65, 0, -1, math.MaxInt, math.MinInt} {
		wantNoOpen(t, h, inode, api.EMFile)
	}
	wantAll(t, h, before...)
	for _, n := range []int{63, 17, 40, 0} {
		wantClose(t, h, n, n+1, true)
		wantNotOpen(t, h, n)
	}
	wantNoOpen(t, h, 0, api.EInval)
	for _, n := range []int{0, 17, 40, 63} {
		wantOpen(t, h, 100, 3, n)
	}
	wantNoOpen(t, h, 1, api.EMFile)
	wantCount(t, h, 100, 4)
}

// TestNotOpen: P24.1: EBadF of numbers that are none, and of those that are closed.
func TestNotOpen(t *testing.T) {
	h := full(t)
	for _, n := range []int{-1, 64, 65, math.MaxInt, math.MinInt, 1 << 32} {
		wantNotOpen(t, h, n)
	}
	if len(h.All()) != 64 {
		t.Error("All", h.All())
	}
	wantClose(t, h, 5, 6, true)
	wantNotOpen(t, h, 5)
	wantNotOpen(t, h, 5)
}

// TestLast: P24.1, P24.3: last is true of the last one on an inode alone, whichever that is.
func TestLast(t *testing.T) {
	for _, order := range [][]int{{0, 1, 3}, {3, 1, 0}, {1, 3, 0}} {
		h := handle.New()
		for _, inode := range []int{8, 8, 4, 8} {
			h.Open(inode, 0)
		}
		for i, n := range order {
			wantCount(t, h, 8, len(order)-i)
			wantClose(t, h, n, 8, i == len(order)-1)
		}
		wantCount(t, h, 8, 0)
		wantCount(t, h, 4, 1)
		wantClose(t, h, 2, 4, true)
		wantAll(t, h)
	}
}

// TestInodes: P24.2: inodes rise, each once, whatever the order in which they were opened.
func TestInodes(t *testing.T) {
	h := handle.New()
	for _, inode := range []int{300, 2, 70, 2, 1, 300, math.MaxInt, 9, 2} {
		h.Open(inode, 0)
	}
	wantInodes(t, h, 1, 2, 9, 70, 300, math.MaxInt)
	for inode, n := range map[int]int{1: 1, 2: 3, 9: 1, 70: 1, 300: 2, math.MaxInt: 1, 3: 0, 0: 0, -1: 0, math.MinInt: 0} {
		wantCount(t, h, inode, n)
	}
}

// TestClear: P24.2: Clear tells the inodes, and all are free then.
func TestClear(t *testing.T) {
	h := handle.New()
	if l := h.Clear(); len(l) != 0 {
		t.Error("Clear of none", l)
	}
	for _, inode := range []int{7, 3, 7, 5} {
		h.Open(inode, 1)
	}
	if l := h.Clear(); !slices.Equal(l, []int{3, 5, 7}) {
		t.Error("Clear", l)
	}
	wantAll(t, h)
	wantInodes(t, h)
	wantCount(t, h, 7, 0)
	wantNotOpen(t, h, 0)
	if l := h.Clear(); len(l) != 0 {
		t.Error("Clear again", l)
	}
	wantOpen(t, h, 7, 2, 0)
	wantClose(t, h, 0, 7, true)
	h = full(t)
	if l := h.Clear(); len(l) != 64 || l[0] != 1 || l[63] != 64 {
		t.Error("Clear of all", l)
	}
	wantOpen(t, h, 1, 0, 0)
}

// TestFork: P24.2: another one that is the same; what is done to one is not done to the other.
func TestFork(t *testing.T) {
	h := handle.New()
	for _, inode := range []int{4, 4, 6} {
		h.Open(inode, inode)
	}
	h.Close(1)
	was := h.All()
	o := h.Fork()
	wantAll(t, o, was...)
	wantInodes(t, o, 4, 6)
	wantOpen(t, o, 4, 0, 1)
	wantClose(t, o, 2, 6, true)
	wantAll(t, h, was...)
	wantCount(t, h, 4, 1)
	wantCount(t, h, 6, 1)
	wantClose(t, h, 0, 4, true)
	wantCount(t, o, 4, 2)
	h.Clear()
	wantInodes(t, o, 4)
	wantInodes(t, o.Fork().Fork(), 4)
	o.Clear()
	wantOpen(t, h, 11, 0, 0)
	wantAll(t, o)
}

// TestOwnLists: R3: what was answered may be changed.
func TestOwnLists(t *testing.T) {
	h := handle.New()
	for _, inode := range []int{3, 2} {
		h.Open(inode, 9)
	}
	for _, l := range [][]api.Handle{h.All(), h.Fork().All()} {
		l[0].Inode = 77
		_ = append(l[:1], api.Handle{Number: 50})
	}
	h.Inodes()[0] = 77
	wantAll(t, h, api.Handle{Number: 0, Inode: 3, Flags: 9}, api.Handle{Number: 1, Inode: 2, Flags: 9})
	wantInodes(t, h, 2, 3)
}

// TestNotGiven: P24.2: what a Table that New did not give tells.
func TestNotGiven(t *testing.T) {
	for _, h := range []*handle.Table{nil, {}, new(handle.Table)} {
		for _, inode := range []int{1, 0, -1, 64} {
			wantNoOpen(t, h, inode, api.EBadF)
			wantNotOpen(t, h, inode)
			wantCount(t, h, inode, 0)
		}
		wantAll(t, h)
		wantInodes(t, h)
		if l := h.Clear(); len(l) != 0 {
			t.Error("Clear", l)
		}
		if h.Fork() != nil {
			t.Error("Fork")
		}
		wantNoOpen(t, h, 1, api.EBadF) // behind Clear too
	}
}
