package fs_test

import (
	"math"
	"math/rand"
	"strings"
	"testing"

	"dedup/api"
	"dedup/fs"
	"dedup/model"
)

// anyPath is a path that may be there, or none.
func anyPath(r *rand.Rand) string {
	switch r.Intn(60) {
	case 0:
		return ""
	case 1:
		return "/"
	case 2:
		return "a"
	case 3:
		return "/" + strings.Repeat("n", 31+r.Intn(3))
	case 4:
		return strings.Repeat("/a", 255+r.Intn(3))
	case 5:
		return "/a\x00"
	}
	p := ""
	for range r.Intn(5) / 2 {
		p += "/" + []string{"d", "d", "d", "d", "e", "e", "e", "f", ".", "..", "a"}[r.Intn(11)]
		if r.Intn(20) == 0 {
			p += "/"
		}
	}
	p += "/" + []string{"a", "a", "b", "b", "c", "c", "d", "e", "f", "g", ".", ".."}[r.Intn(12)]
	if r.Intn(20) == 0 {
		p += "/"
	}
	return p
}

// anyDir is a path of a directory, or of another thing.
func anyDir(r *rand.Rand) string {
	p := ""
	for range 1 + r.Intn(4)/3 {
		p += "/" + []string{"d", "d", "e", "f"}[r.Intn(4)]
	}
	if r.Intn(4) == 0 {
		return anyPath(r)
	}
	return p
}

// anyData is bytes some of which were written elsewhere, too.
func anyData(r *rand.Rand) string {
	b := make([]byte, r.Intn([]int{1, 2, 6, 40, 200, 600, 2000}[r.Intn(7)]))
	switch r.Intn(3) {
	case 0:
		for i := range b {
			b[i] = byte(r.Intn(3))
		}
	case 1:
		return some(len(b), r.Intn(4))
	}
	return string(b)
}

// anyOp is a call of any kind, most of them with arguments that may be.
func anyOp(r *rand.Rand) api.Op {
	h := r.Intn(2)
	switch r.Intn(24) {
	case 0, 1, 2, 3:
		flags := []int{1, 1, 1, 1, 1, 1, 1, 0, 5, 4, 3, 7, 2, -1, 8, 1 << 40}[r.Intn(16)]
		return open(anyPath(r), flags)
	case 4:
		return closing(h)
	case 5, 6:
		if r.Intn(8) == 0 {
			return read(h-1, r.Intn(3*api.MaxFile)-api.MaxFile, r.Intn(2*api.MaxIO)-5000)
		}
		return read(h, r.Intn(700), r.Intn(3000))
	case 7, 8, 9, 10, 11:
		if r.Intn(20) == 0 {
			return write(h, []int{-1, api.MaxFile, api.MaxFile - 100, api.MaxFile / 2, math.MaxInt}[r.Intn(5)], anyData(r))
		}
		return write(h, r.Intn(700), anyData(r))
	case 12:
		return truncate(h, []int{r.Intn(700), r.Intn(200), 0, -1, api.MaxFile, api.MaxFile + 1}[r.Intn(6)])
	case 13:
		return stat(anyPath(r))
	case 14:
		return list(anyPath(r))
	case 15, 16:
		return mkdir(anyDir(r))
	case 17:
		return rmdir(anyDir(r))
	case 18:
		return link(anyPath(r), anyPath(r))
	case 19, 20:
		return unlink(anyPath(r))
	case 21:
		return rename(anyPath(r), anyPath(r))
	case 22:
		if r.Intn(3) > 0 {
			return upkeep(r)
		}
		return rename(anyDir(r), anyDir(r))
	}
	return of(api.OpFsync + r.Intn(9)) // one that is none, too
}

// upkeep is a call of maintenance.
func upkeep(r *rand.Rand) api.Op {
	return of(api.OpSync + r.Intn(5))
}

// anyShape is a volume's, of any size.
func anyShape(r *rand.Rand) api.Shape {
	s := api.Shape{Sector: 512 << r.Intn(3), Sectors: []int{16, 24, 48, 96, 256, 700}[r.Intn(6)], Pack: 2 + r.Intn(7), Bits: []int{0, 1, 3, 8, 256}[r.Intn(5)], Dedup: r.Intn(3) > 0}
	normal := 16 << r.Intn(4)
	s.Journal = 2 + r.Intn(s.Sectors/4-1)
	s.Cut = api.Cut{Min: 1 + r.Intn(normal), Normal: normal, Max: min(normal*(1+r.Intn(8)), s.Pack*s.Sector-40), Seed: r.Uint64()}
	return s
}

// told tells whether a call is told what the model tells; changed, whether the world is the model's then.
func told(o api.Op, got, want api.Result) (ok, changed bool) {
	if model.Same(got, want) {
		return true, true
	}
	may := model.Mutates(o, want) && o.Kind != api.OpClose && o.Kind != api.OpRemount
	return may && model.Same(got, api.Result{Err: api.ENoSpc}), false
}

// TestModel: P27.1, P27.3, P27.5: any calls on any volume are told what the model tells, but for ENoSpc of changes, of which nothing is there then; behind each of them all is right.
func TestModel(t *testing.T) {
	full, changes := 0, 0
	for seed := range 40 {
		r := rand.New(rand.NewSource(int64(seed)))
		s := anyShape(r)
		f, w := format(t, s), model.New()
		for i := range 150 {
			o := anyOp(r)
			next := w.Fork()
			got, want := f.Do(o), next.Do(o)
			ok, changed := told(o, got, want)
			if !ok {
				t.Fatalf("seed %d, call %d, %+v: %v, want %v", seed, i, short(o), got, want)
			}
			if changed {
				w = next
			}
			if got.Err == api.ENoSpc {
				full++
			} else if model.Mutates(o, got) {
				changes++
			}
			wantWorld(t, f, w)
		}
	}
	if full < 40 || changes < 800 {
		t.Error("refused", full, "changes", changes)
	}
}

// otherShapes is a shape, and others that differ from it in what nobody is told of.
func otherShapes() []api.Shape {
	s := api.Shape{Sector: 512, Sectors: 4096, Journal: 100, Pack: 4, Cut: api.Cut{Min: 16, Normal: 32, Max: 200}, Bits: 256, Dedup: true}
	l := []api.Shape{s}
	for _, change := range []func(s *api.Shape){
		func(s *api.Shape) { s.Dedup = false },
		func(s *api.Shape) { s.Bits = 0 },
		func(s *api.Shape) { s.Bits = 5 },
		func(s *api.Shape) { s.Cut.Seed = 1 },
		func(s *api.Shape) { s.Cut = api.Cut{Min: 128, Normal: 128, Max: 128} },
		func(s *api.Shape) { s.Pack, s.Cut.Max = 64, 256 },
		func(s *api.Shape) { s.Journal = 2 },
		func(s *api.Shape) { s.Sector, s.Sectors = 4096, 1024 },
	} {
		other := s
		change(&other)
		l = append(l, other)
	}
	return l
}

// TestMaintenance: P27.4: where there is room, volumes of many shapes are told the same, with any maintenance between the calls, or without.
func TestMaintenance(t *testing.T) {
	for seed := range 10 {
		r := rand.New(rand.NewSource(int64(seed)))
		var l []*fs.Fs
		for _, s := range otherShapes() {
			l = append(l, format(t, s))
		}
		w := model.New()
		for range 150 {
			o := anyOp(r)
			want := w.Do(o)
			for i, f := range l {
				for range r.Intn(4) * min(i, 1) { // the first one has none
					wantErr(t, f, upkeep(r), api.OK)
				}
				wantResult(t, f, o, want)
			}
		}
		for _, f := range l {
			wantWorld(t, f, w)
		}
	}
}

// TestCleaned: P27.6: behind a sync, steps of the cleaner, as many as there are containers, and one, leave no dead slot in a container that is not open; what is told stays.
func TestCleaned(t *testing.T) {
	cleaned := 0
	for seed := range 40 {
		r := rand.New(rand.NewSource(int64(seed)))
		f, w := format(t, anyShape(r)), model.New()
		for i := range 80 {
			o := anyOp(r)
			if i == 0 {
				o = open("/a", 1)
			} else if r.Intn(3) > 0 { // so that there is much to clean
				o = write(0, r.Intn(1500), anyData(r))
			}
			next := w.Fork()
			if _, changed := told(o, f.Do(o), next.Do(o)); changed {
				w = next
			}
		}
		done(t, f, of(api.OpSync))
		n, e := f.Clean(len(containers(t, f.Volume().Book())) + 1)
		wantWorld(t, f, w)
		if e != api.OK {
			continue
		}
		for _, k := range containers(t, f.Volume().Book()) {
			if !k.Open && k.Slots != k.Live {
				t.Error("seed", seed, "dead slots", k)
			}
		}
		cleaned += n
	}
	if cleaned < 20 {
		t.Error("containers that were cleaned", cleaned)
	}
}

// TestRoom: P27.7: on a volume of that shape none of the first thirty calls is told ENoSpc.
func TestRoom(t *testing.T) {
	s := api.Shape{Sector: 512, Sectors: 2048, Journal: 64, Pack: 8, Cut: api.Cut{Min: 8, Normal: 32, Max: 128}, Bits: 256, Dedup: true}
	for seed := range 60 {
		r := rand.New(rand.NewSource(int64(seed)))
		s.Cut.Seed = r.Uint64()
		f := format(t, s)
		for i := range 30 {
			o := anyOp(r)
			if i == 0 || seed%3 == 0 && i < 10 { // as many as can be are refused by nothing else
				o = open("/"+string(rune('a'+i)), 1)
			} else if seed%3 == 0 || seed%3 == 1 {
				o = write(0, r.Intn(400)*seed, some(200, i))
			}
			o.Data = o.Data[:min(len(o.Data), 200)]
			if got := f.Do(o); got.Err == api.ENoSpc {
				t.Fatalf("seed %d, call %d, %+v", seed, i, short(o))
			}
		}
		if e := f.Right(); e != api.OK {
			t.Error("Right", e)
		}
	}
}
