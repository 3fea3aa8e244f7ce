package space_test

import (
	"math"
	"slices"
	"testing"

	"dedup/api"
	"dedup/space"
)

// newSpace is one of sectors that may be.
func newSpace(t *testing.T, first, count int) *space.Space {
	t.Helper()
	s, e := space.New(first, count)
	if e != api.OK || s == nil {
		t.Fatal("New", first, count, e)
	}
	return s
}

// area is so many sectors from one on.
func area(first, count int) api.Area {
	return api.Area{First: first, Count: count}
}

// wantErr holds what a call told.
func wantErr(t *testing.T, what string, got, want api.Errno) {
	t.Helper()
	if got != want {
		t.Error(what, got, "want", want)
	}
}

// wantTake holds where so many were taken.
func wantTake(t *testing.T, s *space.Space, n, want int) {
	t.Helper()
	if at, e := s.Take(n); at != want || e != api.OK {
		t.Error("Take", n, at, e, "want", want)
	}
}

// wantNoTake holds why so many were not taken.
func wantNoTake(t *testing.T, s *space.Space, n int, want api.Errno) {
	t.Helper()
	if at, e := s.Take(n); at != 0 || e != want {
		t.Error("Take", n, at, e, "want", want)
	}
}

// wantCounts holds how many are left, used, waiting.
func wantCounts(t *testing.T, s *space.Space, left, used, waiting int) {
	t.Helper()
	if s.Left() != left || s.Used() != used || s.Waiting() != waiting {
		t.Error("counts", s.Left(), s.Used(), s.Waiting(), "want", left, used, waiting)
	}
}

// wantRuns holds the runs.
func wantRuns(t *testing.T, s *space.Space, want ...api.Area) {
	t.Helper()
	if got := slices.Collect(s.Runs()); !slices.Equal(got, want) {
		t.Error("Runs", got, "want", want)
	}
}

// TestNew: P6.1: which sectors may be, and that all are free and none is reserved.
func TestNew(t *testing.T) {
	for _, may := range [][2]int{{0, 1}, {0, 4096}, {1, 4095}, {4095, 1}, {4000, 96}, {8, 10}} {
		s := newSpace(t, may[0], may[1])
		wantCounts(t, s, may[1], 0, 0)
		wantRuns(t, s, area(may[0], may[1]))
		wantErr(t, "Release of none", s.Release(1), api.ErrArg)
	}
	for _, not := range [][2]int{
		{-1, 1}, {-1, 4096}, {0, 0}, {0, -1}, {5, 0}, {0, 4097}, {1, 4096}, {4096, 1}, {4095, 2}, {4096, 0}, {4097, -1}, {4097, 1},
		{math.MaxInt, 1}, {1, math.MaxInt}, {math.MaxInt, math.MaxInt}, {math.MinInt, 1}, {0, math.MinInt}, {1, math.MinInt},
		{math.MinInt, math.MinInt}, {math.MinInt, math.MaxInt}, {math.MaxInt, math.MinInt},
	} {
		if s, e := space.New(not[0], not[1]); s != nil || e != api.ErrArg {
			t.Error("New", not, e)
		}
	}
}

// TestFirstExample: P6.2, P6.3, P6.5: the chapter's first example.
func TestFirstExample(t *testing.T) {
	s := newSpace(t, 8, 10)
	wantTake(t, s, 3, 8)
	wantTake(t, s, 2, 11)
	wantErr(t, "Later", s.Later(area(8, 3)), api.OK)
	wantCounts(t, s, 5, 2, 3)
	wantNoTake(t, s, 6, api.ErrFull)
	if n := s.Settle(); n != 3 {
		t.Error("Settle", n)
	}
	wantRuns(t, s, area(8, 3), area(13, 5))
	wantTake(t, s, 4, 13)
}

// TestSecondExample: P6.4: the chapter's second example.
func TestSecondExample(t *testing.T) {
	s := newSpace(t, 0, 5)
	wantErr(t, "Reserve", s.Reserve(2), api.OK)
	wantCounts(t, s, 3, 0, 0)
	wantNoTake(t, s, 5, api.ErrFull)
	wantNoTake(t, s, 4, api.ErrFull)
	wantTake(t, s, 3, 0)
}

// TestTake: P6.2: how many may be taken, and where: first fit, not best fit.
func TestTake(t *testing.T) {
	s := newSpace(t, 100, 200)
	for _, n := range []int{0, -1, math.MinInt} {
		wantNoTake(t, s, n, api.ErrArg)
	}
	for _, n := range []int{201, 4096, math.MaxInt} {
		wantNoTake(t, s, n, api.ErrFull)
	}
	wantTake(t, s, 200, 100)
	wantNoTake(t, s, 1, api.ErrFull)
	wantNoTake(t, s, 0, api.ErrArg)
	for _, hole := range []api.Area{area(101, 2), area(160, 9), area(200, 3), area(299, 1)} {
		wantErr(t, "Free", s.Free(hole), api.OK)
	}
	wantNoTake(t, s, 10, api.ErrFull) // 15 are left, but no run has 10
	wantTake(t, s, 3, 160)
	wantTake(t, s, 1, 101)
	wantTake(t, s, 1, 102)
	wantTake(t, s, 6, 163)
	wantTake(t, s, 3, 200)
	wantNoTake(t, s, 2, api.ErrFull)
	wantTake(t, s, 1, 299)
	wantCounts(t, s, 0, 200, 0)
}

// TestMark: P6.2: which areas may be marked; ErrArea ahead of ErrFull.
func TestMark(t *testing.T) {
	s := newSpace(t, 8, 10)
	wantErr(t, "Mark", s.Mark(area(10, 3)), api.OK)
	for _, a := range wrongAreas() {
		wantErr(t, "Mark of a wrong area", s.Mark(a), api.ErrArea)
	}
	for _, a := range []api.Area{area(10, 1), area(12, 1), area(8, 3), area(12, 2), area(9, 5), area(8, 10)} {
		wantErr(t, "Mark of what is not free", s.Mark(a), api.ErrArea)
	}
	wantErr(t, "Later", s.Later(area(11, 1)), api.OK)
	wantErr(t, "Mark of what waits", s.Mark(area(11, 1)), api.ErrArea)
	wantErr(t, "Reserve", s.Reserve(5), api.OK)
	wantErr(t, "Mark of more than is left", s.Mark(area(13, 3)), api.ErrFull)
	wantErr(t, "Mark of more than is left, and used", s.Mark(area(12, 3)), api.ErrArea)
	wantErr(t, "Mark of all that is left", s.Mark(area(16, 2)), api.OK)
	wantErr(t, "Mark of what is reserved", s.Mark(area(8, 1)), api.ErrFull)
	wantCounts(t, s, 0, 4, 1)
	wantRuns(t, s, area(8, 2), area(13, 3))
}

// wrongAreas are some that do not lie within the sectors 8 to 17.
func wrongAreas() []api.Area {
	return []api.Area{
		{}, area(8, 0), area(8, -1), area(7, 1), area(7, 2), area(17, 2), area(18, 1), area(18, 0), area(8, 11), area(0, 10), area(-8, 10),
		area(8, math.MaxInt), area(17, math.MaxInt), area(math.MaxInt, 1), area(math.MaxInt, math.MaxInt), area(math.MinInt, 1),
		area(math.MinInt, math.MaxInt), area(8, math.MinInt), area(math.MaxInt, math.MinInt), area(8+1<<32, 1), area(math.MinInt, math.MinInt),
	}
}

// TestGiveBack: P6.3: which areas may be given back; a refused one changes nothing.
func TestGiveBack(t *testing.T) {
	for name, give := range map[string]func(*space.Space, api.Area) api.Errno{"Free": (*space.Space).Free, "Later": (*space.Space).Later} {
		s := newSpace(t, 8, 10)
		wantTake(t, s, 10, 8)
		for _, a := range wrongAreas() {
			wantErr(t, name+" of a wrong area", give(s, a), api.ErrArea)
		}
		wantErr(t, "Free", s.Free(area(10, 1)), api.OK)
		wantErr(t, "Later", s.Later(area(15, 1)), api.OK)
		for _, a := range []api.Area{area(10, 1), area(9, 2), area(10, 2), area(9, 3), area(8, 10), area(15, 1), area(14, 2), area(15, 2), area(14, 3)} {
			wantErr(t, name+" of what is not used", give(s, a), api.ErrArea)
		}
		wantCounts(t, s, 1, 8, 1)
		wantErr(t, name, give(s, area(11, 4)), api.OK)
		wantErr(t, name+" again", give(s, area(11, 4)), api.ErrArea)
		if s.Used() != 4 || s.Left()+s.Waiting() != 6 {
			t.Error(name, s.Left(), s.Used(), s.Waiting())
		}
	}
}

// TestFreeAtOnce: P6.3: what Free gave back is taken next; what Later gave back only behind Settle.
func TestFreeAtOnce(t *testing.T) {
	s := newSpace(t, 0, 4)
	wantTake(t, s, 4, 0)
	wantErr(t, "Free", s.Free(area(2, 1)), api.OK)
	wantTake(t, s, 1, 2)
	wantErr(t, "Later", s.Later(area(0, 2)), api.OK)
	wantNoTake(t, s, 1, api.ErrFull)
	wantRuns(t, s)
	if !s.Has(0) || !s.Has(1) || s.Bits() != "\x0f" {
		t.Error("what waits is not free")
	}
	if s.Settle() != 2 || s.Settle() != 0 {
		t.Error("Settle")
	}
	wantCounts(t, s, 2, 2, 0)
	wantTake(t, s, 2, 0)
}

// TestReserve: P6.4: how many may be reserved and released.
func TestReserve(t *testing.T) {
	s := newSpace(t, 3, 6)
	wantTake(t, s, 1, 3)
	for _, n := range []int{-1, math.MinInt} {
		wantErr(t, "Reserve", s.Reserve(n), api.ErrArg)
		wantErr(t, "Release", s.Release(n), api.ErrArg)
	}
	for _, n := range []int{6, math.MaxInt} {
		wantErr(t, "Reserve", s.Reserve(n), api.ErrFull)
		wantErr(t, "Release", s.Release(n), api.ErrArg)
	}
	wantErr(t, "Reserve of none", s.Reserve(0), api.OK)
	wantErr(t, "Release of none", s.Release(0), api.OK)
	wantErr(t, "Reserve", s.Reserve(2), api.OK)
	wantErr(t, "Reserve more", s.Reserve(3), api.OK)
	wantCounts(t, s, 0, 1, 0)
	wantErr(t, "Reserve of none more", s.Reserve(0), api.OK)
	wantErr(t, "Reserve of one more", s.Reserve(1), api.ErrFull)
	wantErr(t, "Reserve of very many more", s.Reserve(math.MaxInt), api.ErrFull)
	wantNoTake(t, s, 1, api.ErrFull)
	wantErr(t, "Release of more", s.Release(6), api.ErrArg)
	wantErr(t, "Release", s.Release(4), api.OK)
	wantCounts(t, s, 4, 1, 0)
	wantErr(t, "Release of two", s.Release(2), api.ErrArg)
	wantErr(t, "Release of the last", s.Release(1), api.OK)
	wantErr(t, "Release of none there", s.Release(1), api.ErrArg)
	wantCounts(t, s, 5, 1, 0)
}

// TestHas: P6.5: of sectors that are not the space's too.
func TestHas(t *testing.T) {
	s := newSpace(t, 8, 10)
	wantTake(t, s, 10, 8)
	wantErr(t, "Free", s.Free(area(9, 1)), api.OK)
	wantErr(t, "Later", s.Later(area(17, 1)), api.OK)
	for sector := -20; sector < 200; sector++ {
		if want := sector >= 8 && sector < 18 && sector != 9; s.Has(sector) != want {
			t.Error("Has", sector, "is not", want)
		}
	}
	for _, sector := range []int{math.MaxInt, math.MinInt, 1<<32 + 8, -8} {
		if s.Has(sector) {
			t.Error("Has", sector)
		}
	}
}

// TestBits: P6.5: the first sector is the lowest bit of the first byte, whatever its number; bits that are no sector's are 0.
func TestBits(t *testing.T) {
	for count := 1; count <= 130; count++ {
		s := newSpace(t, 3, count)
		if got := s.Bits(); got != string(make([]byte, (count+7)/8)) {
			t.Errorf("Bits of %d free: %x", count, got)
		}
		for i := range count {
			one := s.Fork()
			wantErr(t, "Mark", one.Mark(area(3+i, 1)), api.OK)
			want := make([]byte, (count+7)/8)
			want[i/8] = 1 << (i % 8)
			if got := one.Bits(); got != string(want) {
				t.Errorf("Bits of sector %d of %d: %x", i, count, got)
			}
		}
		wantTake(t, s, count, 3)
		full := slices.Repeat([]byte{255}, (count+7)/8)
		full[len(full)-1] >>= (8 - count%8) % 8
		if got := s.Bits(); got != string(full) {
			t.Errorf("Bits of %d used: %x", count, got)
		}
	}
}
