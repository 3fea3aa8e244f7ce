package layout_test

import (
	"math"
	"testing"

	"dedup/api"
	"dedup/layout"
)

// shape is one that may be, with room on all sides.
func shape() api.Shape {
	return api.Shape{Sector: 512, Sectors: 32, Journal: 6, Pack: 4, Cut: api.Cut{Min: 16, Normal: 64, Max: 128, Seed: 7}, Bits: 256, Dedup: true}
}

// with is shape, changed.
func with(change func(s *api.Shape)) api.Shape {
	s := shape()
	change(&s)
	return s
}

// wide is one whose containers have room for any chunk that Normal allows, up to 2^17.
func wide() api.Shape {
	return api.Shape{Sector: 4096, Sectors: 4096, Journal: 1024, Pack: 64, Cut: api.Cut{Min: 1, Normal: 16384, Max: 16384}}
}

// field is one number of a shape: how it is set, and whether it may be so.
type field struct {
	name string
	base api.Shape
	set  func(s *api.Shape, n int)
	may  func(n int) bool
}

// isOneOf tells whether n is one of a list.
func isOneOf(n int, l ...int) bool {
	for _, x := range l {
		if n == x {
			return true
		}
	}
	return false
}

// fields are the numbers of shapes, each with those that it may be while the others stand.
func fields() []field {
	small := with(func(s *api.Shape) { s.Journal, s.Cut.Min, s.Cut.Normal, s.Cut.Max = 2, 1, 16, 16 })
	return []field{
		{"Sector", small, func(s *api.Shape, n int) { s.Sector = n }, func(n int) bool { return isOneOf(n, 512, 1024, 2048, 4096) }},
		{"Sectors", small, func(s *api.Shape, n int) { s.Sectors = n }, func(n int) bool { return n >= 16 && n <= 4096 }},
		{"Sectors of a journal of 6", shape(), func(s *api.Shape, n int) { s.Sectors = n }, func(n int) bool { return n >= 24 && n <= 4096 }},
		{"Journal", shape(), func(s *api.Shape, n int) { s.Journal = n }, func(n int) bool { return n >= 2 && n <= 8 }},
		{"Journal of 35 sectors", with(func(s *api.Shape) { s.Sectors = 35 }), func(s *api.Shape, n int) { s.Journal = n }, func(n int) bool { return n >= 2 && n <= 8 }},
		{"Journal of 36 sectors", with(func(s *api.Shape) { s.Sectors = 36 }), func(s *api.Shape, n int) { s.Journal = n }, func(n int) bool { return n >= 2 && n <= 9 }},
		{"Journal of 4096 sectors", wide(), func(s *api.Shape, n int) { s.Journal = n }, func(n int) bool { return n >= 2 && n <= 1024 }},
		{"Pack", shape(), func(s *api.Shape, n int) { s.Pack = n }, func(n int) bool { return n >= 2 && n <= 64 }},
		{"Pack of chunks of 1024", with(func(s *api.Shape) { s.Cut = api.Cut{Min: 1, Normal: 512, Max: 1024} }), func(s *api.Shape, n int) { s.Pack = n }, func(n int) bool { return n >= 3 && n <= 64 }},
		{"Min", shape(), func(s *api.Shape, n int) { s.Cut.Min = n }, func(n int) bool { return n >= 1 && n <= 64 }},
		{"Normal", small, func(s *api.Shape, n int) { s.Cut.Normal = n; s.Cut.Max = n }, func(n int) bool { return isOneOf(n, 16, 32, 64, 128, 256, 512, 1024) }},
		{"Normal of a wide one", wide(), func(s *api.Shape, n int) { s.Cut.Normal = n; s.Cut.Max = n }, func(n int) bool { return n >= 16 && n <= 65536 && n&(n-1) == 0 }},
		{"Normal of a Max of 128", shape(), func(s *api.Shape, n int) { s.Cut.Normal = n }, func(n int) bool { return isOneOf(n, 16, 32, 64, 128) }},
		{"Max by 8 times Normal", shape(), func(s *api.Shape, n int) { s.Cut.Max = n }, func(n int) bool { return n >= 64 && n <= 512 }},
		{"Max by the room", with(func(s *api.Shape) { s.Pack, s.Cut.Normal = 2, 512 }), func(s *api.Shape, n int) { s.Cut.Max = n }, func(n int) bool { return n >= 512 && n <= 984 }},
		{"Max by the greatest room", wide(), func(s *api.Shape, n int) { s.Cut.Max = n }, func(n int) bool { return n >= 16384 && n <= 131072 }},
		{"Max by the room of 64 sectors", with(func(s *api.Shape) { *s = wide(); s.Cut.Normal = 65536 }), func(s *api.Shape, n int) { s.Cut.Max = n }, func(n int) bool { return n >= 65536 && n <= 262104 }},
		{"Bits", shape(), func(s *api.Shape, n int) { s.Bits = n }, func(n int) bool { return n >= 0 && n <= 256 }},
	}
}

// TestCheck: P4.1: each number of a shape, over all that it may be and far beyond.
func TestCheck(t *testing.T) {
	far := []int{math.MinInt, math.MinInt + 1, -1 << 32, -65536, -4096, -512, 1 << 17, 131073, 262104, 262105, 524288, 1 << 31, 1 << 32, 1<<32 + 512, 1 << 62, 1<<62 + 16, math.MaxInt - 1, math.MaxInt}
	for n := -20; n <= 66000; n++ {
		far = append(far, n)
	}
	for _, f := range fields() {
		for _, n := range far {
			s := f.base
			f.set(&s, n)
			want := api.ErrShape
			if f.may(n) {
				want = api.OK
			}
			if e := layout.Check(s); e != want {
				t.Errorf("Check with %s %d: %d, want %d", f.name, n, e, want)
			}
		}
	}
}

// TestCheckFree: P4.1: any seed, and Dedup or not; the zero shape may not be.
func TestCheckFree(t *testing.T) {
	for _, seed := range []uint64{0, 1, math.MaxUint64} {
		for _, dedup := range []bool{false, true} {
			if e := layout.Check(with(func(s *api.Shape) { s.Cut.Seed, s.Dedup = seed, dedup })); e != api.OK {
				t.Error("Check", seed, dedup, e)
			}
		}
	}
	if e := layout.Check(api.Shape{}); e != api.ErrShape {
		t.Error("Check of the zero shape", e)
	}
}

// TestAreas: P4.1, and the chapter's example.
func TestAreas(t *testing.T) {
	s := shape()
	if j, d := layout.Journal(s), layout.Data(s); j != (api.Area{First: 2, Count: 6}) || d != (api.Area{First: 8, Count: 24}) {
		t.Error("areas", j, d)
	}
	for sector, want := range map[int]int{0: api.AreaSuper, 1: api.AreaSuper, 2: api.AreaJournal, 7: api.AreaJournal, 8: api.AreaData, 31: api.AreaData, 32: 0, -1: 0, math.MaxInt: 0, math.MinInt: 0} {
		if k := layout.Kind(s, sector); k != want {
			t.Error("Kind", sector, k, want)
		}
	}
}

// TestAreasOfNoShape: P4.1: of a shape that may not be there are none, whatever is wrong with it.
func TestAreasOfNoShape(t *testing.T) {
	bad := []api.Shape{{}}
	for _, f := range fields() {
		s := f.base
		f.set(&s, -1)
		bad = append(bad, s)
	}
	for _, s := range bad {
		if j, d := layout.Journal(s), layout.Data(s); j != (api.Area{}) || d != (api.Area{}) {
			t.Error("areas", s, j, d)
		}
		for _, sector := range []int{-1, 0, 1, 2, 8, 31} {
			if k := layout.Kind(s, sector); k != 0 {
				t.Error("Kind", s, sector, k)
			}
		}
	}
}

// TestAreasLieOneBehindTheOther: P4.4: each sector of a disk is of one area: 2 of the superblocks, the journal's, the data's.
func TestAreasLieOneBehindTheOther(t *testing.T) {
	for _, sectors := range []int{16, 17, 19, 20, 64, 1000, 4095, 4096} {
		for _, journal := range []int{2, 3, sectors / 8, sectors / 4} {
			s := with(func(s *api.Shape) { s.Sectors, s.Journal = sectors, max(journal, 2) })
			j, d := layout.Journal(s), layout.Data(s)
			if j.First != 2 || j.Count != s.Journal || d.First != 2+s.Journal || d.First+d.Count != sectors || d.Count < 1 {
				t.Error("areas", sectors, journal, j, d)
			}
			for n := range sectors {
				want := api.AreaSuper
				if n >= j.First {
					want = api.AreaJournal
				}
				if n >= d.First {
					want = api.AreaData
				}
				if k := layout.Kind(s, n); k != want {
					t.Error("Kind", sectors, journal, n, k, want)
				}
			}
			if layout.Kind(s, sectors) != 0 {
				t.Error("Kind behind the last", sectors)
			}
		}
	}
}
