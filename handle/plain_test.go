package handle_test

import (
	"math/rand"
	"slices"
	"testing"

	"dedup/api"
	"dedup/handle"
)

// plain is a table by the chapter's words: those that are open, in any order, looked through each time.
type plain []api.Handle

// get is an open one, and where it stands.
func (p plain) get(number int) (int, api.Handle, api.Errno) {
	for i, x := range p {
		if x.Number == number {
			return i, x, api.OK
		}
	}
	return 0, api.Handle{}, api.EBadF
}

func (p *plain) open(inode, flags int) (int, api.Errno) {
	for n := range 64 {
		if _, _, e := p.get(n); e == api.OK {
			continue
		}
		if inode < 1 {
			return 0, api.EInval
		}
		*p = append(*p, api.Handle{Number: n, Inode: inode, Flags: flags})
		return n, api.OK
	}
	return 0, api.EMFile
}

func (p *plain) close(number int) (int, bool, api.Errno) {
	i, x, e := p.get(number)
	if e != api.OK {
		return 0, false, e
	}
	*p = slices.Delete(slices.Clone(*p), i, i+1)
	return x.Inode, p.count(x.Inode) == 0, api.OK
}

func (p plain) count(inode int) int {
	n := 0
	for _, x := range p {
		if x.Inode == inode {
			n++
		}
	}
	return n
}

func (p plain) all() []api.Handle {
	l := slices.Clone(p)
	slices.SortFunc(l, func(x, y api.Handle) int { return x.Number - y.Number })
	return l
}

func (p plain) inodes() []int {
	var l []int
	for _, x := range p {
		l = append(l, x.Inode)
	}
	slices.Sort(l)
	return slices.Compact(l)
}

// wantAsPlain holds all that is told of a table.
func wantAsPlain(t *testing.T, h *handle.Table, p plain) {
	t.Helper()
	wantAll(t, h, p.all()...)
	wantInodes(t, h, p.inodes()...)
	for inode := -1; inode < 22; inode++ {
		wantCount(t, h, inode, p.count(inode))
	}
	for n := -1; n < 66; n++ {
		if _, x, e := p.get(n); e != api.OK {
			if g, ge := h.Get(n); g != x || ge != e {
				t.Error("Get", n, g, ge, "want", x, e)
			}
		}
	}
}

// stepBoth does any call on both, and holds what is told.
func stepBoth(t *testing.T, r *rand.Rand, h *handle.Table, p *plain, fill bool) api.Errno {
	t.Helper()
	switch what := r.Intn(10); {
	case what < 6 && fill || what < 3:
		inode, flags := r.Intn(22)-1, r.Intn(8)
		got, e := h.Open(inode, flags)
		if want, we := p.open(inode, flags); got != want || e != we {
			t.Fatal("Open", inode, got, e, "want", want, we)
		}
		return e
	case what < 9:
		n := r.Intn(66) - 1
		inode, last, e := h.Close(n)
		if want, wl, we := p.close(n); inode != want || last != wl || e != we {
			t.Fatal("Close", n, inode, last, e, "want", want, wl, we)
		}
		return e
	case r.Intn(30) == 0:
		if got, want := h.Clear(), p.inodes(); !slices.Equal(got, want) {
			t.Fatal("Clear", got, "want", want)
		}
		*p = nil
	}
	return api.OK
}

// TestAsPlain: P24.1 to P24.3: whatever is called, all is told as by the words; of forks too, whichever goes on.
func TestAsPlain(t *testing.T) {
	r := rand.New(rand.NewSource(24))
	seen := map[api.Errno]int{}
	for range 40 {
		h, p := handle.New(), plain(nil)
		for i := range 600 {
			if r.Intn(40) == 0 {
				left, was := h, slices.Clone(p)
				h = h.Fork()
				if r.Intn(2) == 0 {
					h, left = left, h
				}
				for range 5 {
					stepBoth(t, r, h, &p, i%300 < 200)
				}
				wantAsPlain(t, left, was)
			}
			seen[stepBoth(t, r, h, &p, i%300 < 200)]++
			wantAsPlain(t, h, p)
		}
	}
	for _, e := range []api.Errno{api.OK, api.EBadF, api.EInval, api.EMFile} {
		if seen[e] < 50 {
			t.Error("too seldom", e, seen[e])
		}
	}
}
