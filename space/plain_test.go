package space_test

import (
	"math/rand"
	"slices"
	"testing"

	"dedup/api"
	"dedup/space"
)

// What a sector is, in plain.
const (
	free = iota
	used
	waiting
)

// plain is a space by the chapter's words: a list of what each sector is, looked through one by one.
type plain struct {
	first    int
	sectors  []int
	reserved int
}

func newPlain(first, count int) *plain {
	return &plain{first: first, sectors: make([]int, count)}
}

func (p *plain) fork() *plain {
	return &plain{p.first, slices.Clone(p.sectors), p.reserved}
}

func (p *plain) many(what int) int {
	n := 0
	for _, x := range p.sectors {
		if x == what {
			n++
		}
	}
	return n
}

func (p *plain) left() int { return p.many(free) - p.reserved }

// all tells whether an area lies within and each of its sectors is so.
func (p *plain) all(a api.Area, what int) bool {
	if a.Count < 1 || a.Count > len(p.sectors) {
		return false
	}
	for i := range a.Count {
		at := a.First - p.first + i
		if a.First < p.first || at >= len(p.sectors) || p.sectors[at] != what {
			return false
		}
	}
	return true
}

func (p *plain) let(a api.Area, what int) {
	for i := range a.Count {
		p.sectors[a.First-p.first+i] = what
	}
}

func (p *plain) runs() []api.Area {
	var l []api.Area
	for i, x := range p.sectors {
		switch {
		case x != free:
		case i > 0 && p.sectors[i-1] == free:
			l[len(l)-1].Count++
		default:
			l = append(l, api.Area{First: p.first + i, Count: 1})
		}
	}
	return l
}

func (p *plain) take(n int) (int, api.Errno) {
	if n < 1 {
		return 0, api.ErrArg
	}
	if n > p.left() {
		return 0, api.ErrFull
	}
	for _, run := range p.runs() {
		if run.Count >= n {
			p.let(api.Area{First: run.First, Count: n}, used)
			return run.First, api.OK
		}
	}
	return 0, api.ErrFull
}

func (p *plain) mark(a api.Area) api.Errno {
	if !p.all(a, free) {
		return api.ErrArea
	}
	if a.Count > p.left() {
		return api.ErrFull
	}
	p.let(a, used)
	return api.OK
}

func (p *plain) giveBack(a api.Area, what int) api.Errno {
	if !p.all(a, used) {
		return api.ErrArea
	}
	p.let(a, what)
	return api.OK
}

func (p *plain) settle() int {
	n := p.many(waiting)
	for i, x := range p.sectors {
		if x == waiting {
			p.sectors[i] = free
		}
	}
	return n
}

func (p *plain) reserve(n int) api.Errno {
	if n < 0 {
		return api.ErrArg
	}
	if n > p.left() {
		return api.ErrFull
	}
	p.reserved += n
	return api.OK
}

func (p *plain) release(n int) api.Errno {
	if n < 0 || n > p.reserved {
		return api.ErrArg
	}
	p.reserved -= n
	return api.OK
}

func (p *plain) bits() string {
	b := make([]byte, (len(p.sectors)+7)/8)
	for i, x := range p.sectors {
		if x != free {
			b[i/8] |= 1 << (i % 8)
		}
	}
	return string(b)
}

// wantAsPlain holds all that is told of a space against the plain one.
func wantAsPlain(t *testing.T, s *space.Space, p *plain) {
	t.Helper()
	if s.Left() != p.left() || s.Used() != p.many(used) || s.Waiting() != p.many(waiting) {
		t.Fatal("counts", s.Left(), s.Used(), s.Waiting(), "want", p.left(), p.many(used), p.many(waiting))
	}
	if got, want := s.Bits(), p.bits(); got != want {
		t.Fatalf("Bits %x, want %x", got, want)
	}
	if got, want := slices.Collect(s.Runs()), p.runs(); !slices.Equal(got, want) {
		t.Fatal("Runs", got, "want", want)
	}
	for i := -2; i < len(p.sectors)+2; i++ {
		want := i >= 0 && i < len(p.sectors) && p.sectors[i] != free
		if s.Has(p.first+i) != want {
			t.Fatal("Has", p.first+i, "is not", want)
		}
	}
}

// someArea is an area by chance: a run of alike sectors, a piece of one, or anything.
func someArea(r *rand.Rand, p *plain) api.Area {
	from := r.Intn(len(p.sectors))
	end := from + 1
	for end < len(p.sectors) && p.sectors[end] == p.sectors[from] && r.Intn(12) > 0 {
		end++
	}
	a := api.Area{First: p.first + from, Count: end - from}
	if r.Intn(5) == 0 {
		a = api.Area{First: p.first + from - 3 + r.Intn(6), Count: r.Intn(7) - 1}
	}
	return a
}

// step does one thing by chance to both, and holds what they tell.
func step(t *testing.T, r *rand.Rand, s *space.Space, p *plain) {
	t.Helper()
	var got, want [2]int
	two := func(n int, e api.Errno) [2]int { return [2]int{n, int(e)} }
	n := r.Intn(9) - 1
	if r.Intn(4) == 0 {
		n = r.Intn(len(p.sectors) + 2)
	}
	a := someArea(r, p)
	what := r.Intn(14)
	switch what {
	case 0, 1, 2, 3:
		got, want = two(s.Take(n)), two(p.take(n))
	case 4, 5:
		got, want = two(0, s.Mark(a)), two(0, p.mark(a))
	case 6, 7, 8:
		got, want = two(0, s.Free(a)), two(0, p.giveBack(a, free))
	case 9, 10:
		got, want = two(0, s.Later(a)), two(0, p.giveBack(a, waiting))
	case 11:
		got, want = two(0, s.Reserve(n)), two(0, p.reserve(n))
	case 12:
		got, want = two(0, s.Release(n)), two(0, p.release(n))
	case 13:
		got, want = two(s.Settle(), 0), two(p.settle(), 0)
	}
	if got != want {
		t.Fatal("call", what, "of", n, a, "told", got, "want", want)
	}
}

// TestAsPlain: P6.1 to P6.8: whatever is done, and to whichever fork, all is told as by the plain one.
func TestAsPlain(t *testing.T) {
	r := rand.New(rand.NewSource(6))
	for _, count := range []int{1, 2, 7, 8, 9, 63, 64, 65, 127, 128, 129, 200} {
		for range 6 {
			first := r.Intn(100)
			s, e := space.New(first, count)
			if e != api.OK {
				t.Fatal("New", first, count, e)
			}
			spaces, plains := []*space.Space{s}, []*plain{newPlain(first, count)}
			for range 300 {
				if len(spaces) < 4 && r.Intn(50) == 0 {
					i := r.Intn(len(spaces))
					spaces, plains = append(spaces, spaces[i].Fork()), append(plains, plains[i].fork())
				}
				i := r.Intn(len(spaces))
				step(t, r, spaces[i], plains[i])
				for i, s := range spaces {
					wantAsPlain(t, s, plains[i])
				}
			}
		}
	}
}

// TestGreatest: P6.1 to P6.5: the same of the greatest space there is.
func TestGreatest(t *testing.T) {
	r := rand.New(rand.NewSource(64))
	s, e := space.New(0, api.MaxSectors)
	if e != api.OK {
		t.Fatal("New", e)
	}
	p := newPlain(0, api.MaxSectors)
	for range 400 {
		step(t, r, s, p)
		wantAsPlain(t, s, p)
	}
}
