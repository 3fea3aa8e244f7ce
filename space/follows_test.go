package space_test

import (
	"math/rand"
	"slices"
	"testing"

	"dedup/api"
	"dedup/space"
)

// holed is a space of the sectors 8 to 17 with the runs 8 to 10, 13, and 15 to 17.
func holed(t *testing.T) *space.Space {
	t.Helper()
	s := newSpace(t, 8, 10)
	wantErr(t, "Mark", s.Mark(area(11, 2)), api.OK)
	wantErr(t, "Mark", s.Mark(area(14, 1)), api.OK)
	return s
}

// TestRunsAgain: P6.5 with R5: Runs begins anew each time, also within itself, may be stopped, and changes nothing.
func TestRunsAgain(t *testing.T) {
	s := holed(t)
	want := []api.Area{area(8, 3), area(13, 1), area(15, 3)}
	runs := s.Runs()
	for stop := range want {
		var got []api.Area
		for run := range runs {
			got = append(got, run)
			if len(got) == stop+1 {
				break
			}
		}
		if !slices.Equal(got, want[:stop+1]) {
			t.Error("stopped", got)
		}
	}
	for range runs {
		if got := slices.Collect(runs); !slices.Equal(got, want) {
			t.Error("within itself", got)
		}
	}
	wantCounts(t, s, 7, 3, 0)
}

// TestRunsLook: P6.5 with R5: the runs are as they are when the ranging begins, neither at the call nor behind a first look.
func TestRunsLook(t *testing.T) {
	s := newSpace(t, 8, 10)
	runs := s.Runs()
	wantErr(t, "Mark", s.Mark(area(11, 2)), api.OK)
	wantErr(t, "Mark", s.Mark(area(14, 1)), api.OK)
	var got []api.Area
	for run := range runs {
		got = append(got, run)
		switch len(got) {
		case 1:
			wantErr(t, "Mark", s.Mark(area(15, 2)), api.OK)
		case 2:
			wantErr(t, "Free", s.Free(area(14, 3)), api.OK)
			wantErr(t, "Later", s.Later(area(11, 1)), api.OK)
		}
	}
	if want := []api.Area{area(8, 3), area(13, 1), area(15, 3)}; !slices.Equal(got, want) {
		t.Error("Runs", got, "want", want)
	}
	if got, want := slices.Collect(runs), []api.Area{area(8, 3), area(13, 5)}; !slices.Equal(got, want) {
		t.Error("Runs again", got, "want", want)
	}
}

// TestFork: P6.1: a fork is the same in all; what is done to one is not done to the other.
func TestFork(t *testing.T) {
	s := holed(t)
	wantErr(t, "Later", s.Later(area(12, 1)), api.OK)
	wantErr(t, "Reserve", s.Reserve(2), api.OK)
	other := s.Fork()
	for _, x := range []*space.Space{s, other} {
		wantCounts(t, x, 5, 2, 1)
		wantRuns(t, x, area(8, 3), area(13, 1), area(15, 3))
	}
	if other == s || other.Bits() != s.Bits() {
		t.Error("Fork", other.Bits())
	}
	wantErr(t, "Release", other.Release(2), api.OK)
	if other.Settle() != 1 {
		t.Error("Settle of the fork")
	}
	wantErr(t, "Free", other.Free(area(11, 1)), api.OK)
	wantTake(t, other, 6, 8)
	wantCounts(t, s, 5, 2, 1)
	wantRuns(t, s, area(8, 3), area(13, 1), area(15, 3))
	wantTake(t, s, 3, 8)
	wantErr(t, "Later", s.Later(area(14, 1)), api.OK)
	wantErr(t, "Reserve", s.Reserve(2), api.OK)
	wantCounts(t, other, 3, 7, 0)
	wantRuns(t, other, area(15, 3))
}

// TestNoSpace: P6.6: of a nil Space, and of one that New did not give.
func TestNoSpace(t *testing.T) {
	var none *space.Space
	for _, s := range []*space.Space{none, {}} {
		for _, n := range []int{-1, 0, 1} {
			wantNoTake(t, s, n, api.ErrClosed)
			wantErr(t, "Reserve", s.Reserve(n), api.ErrClosed)
			wantErr(t, "Release", s.Release(n), api.ErrClosed)
			wantErr(t, "Mark", s.Mark(area(n, n)), api.ErrClosed)
			wantErr(t, "Free", s.Free(area(n, n)), api.ErrClosed)
			wantErr(t, "Later", s.Later(area(n, n)), api.ErrClosed)
			if s.Has(n) {
				t.Error("Has", n)
			}
		}
		wantCounts(t, s, 0, 0, 0)
		wantRuns(t, s)
		if s.Settle() != 0 || s.Bits() != "" || s.Fork() != nil {
			t.Error("of a Space that New did not give", s.Bits())
		}
	}
}

// TestNoTwoTakesShare: P6.7: what was taken is used till it is given back, no two takes share a sector, and nothing that waits is taken.
func TestNoTwoTakesShare(t *testing.T) {
	r := rand.New(rand.NewSource(67))
	const first, count = 20, 150
	s := newSpace(t, first, count)
	owner := map[int]int{} // of a sector: the take's number, or -1 if it waits
	taken := map[int]api.Area{}
	for now := range 4000 {
		n := 1 + r.Intn(8)
		if at, e := s.Take(n); e == api.OK {
			taken[now] = area(at, n)
			for i := at; i < at+n; i++ {
				if owner[i] != 0 || i < first || i >= first+count {
					t.Fatal("Take", at, n, "meets", owner[i])
				}
				owner[i] = now + 1
			}
		}
		if a, ok := taken[r.Intn(now+1)]; ok {
			mine := owner[a.First]
			later := r.Intn(2) == 0
			if e := giveBack(s, a, later); e != api.OK {
				t.Fatal("given back", a, e)
			}
			delete(taken, mine-1)
			for i := a.First; i < a.First+a.Count; i++ {
				delete(owner, i)
				if later {
					owner[i] = -1
				}
			}
		}
		if r.Intn(20) == 0 {
			s.Settle()
			for i, mine := range owner {
				if mine < 0 {
					delete(owner, i)
				}
			}
		}
		if s.Used()+s.Waiting() != len(owner) || s.Left() != count-len(owner) {
			t.Fatal("counts", s.Left(), s.Used(), s.Waiting(), len(owner))
		}
	}
}

// giveBack gives an area back at once or later.
func giveBack(s *space.Space, a api.Area, later bool) api.Errno {
	if later {
		return s.Later(a)
	}
	return s.Free(a)
}

// TestReservedIsThere: P6.8: however the free ones lie, what was reserved can be released, and then taken one by one; what is left is never below 0.
func TestReservedIsThere(t *testing.T) {
	r := rand.New(rand.NewSource(68))
	for range 300 {
		count := 1 + r.Intn(140)
		s := newSpace(t, 5, count)
		reserved := r.Intn(count + 1)
		wantErr(t, "Reserve", s.Reserve(reserved), api.OK)
		for range 4 * count {
			at := 5 + r.Intn(count)
			switch r.Intn(4) {
			case 0:
				s.Take(1 + r.Intn(3))
			case 1:
				s.Mark(area(at, 1))
			case 2:
				s.Mark(area(at, 1+r.Intn(count)))
			case 3:
				s.Free(area(at, 1))
			}
			if s.Left() < 0 {
				t.Fatal("Left", s.Left())
			}
		}
		left := s.Left()
		wantErr(t, "Release", s.Release(reserved), api.OK)
		for range reserved + left {
			if _, e := s.Take(1); e != api.OK {
				t.Fatal("Take of what was reserved", e)
			}
		}
		wantNoTake(t, s, 1, api.ErrFull)
	}
}
