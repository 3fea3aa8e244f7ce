package crash_test

import (
	"fmt"
	"math/rand"
	"slices"
	"strings"
	"testing"

	"dedup/api"
	"dedup/crash"
	"dedup/script"
)

// anyPath is a path that may be there.
func anyPath(r *rand.Rand) string {
	p := "/" + string("abc"[r.Intn(3)])
	if r.Intn(3) == 0 {
		p = "/" + string("ad"[r.Intn(2)]) + p
	}
	return p
}

// anyData is bytes, some of which are elsewhere too.
func anyData(r *rand.Rand) string {
	n := r.Intn([]int{2, 20, 100, 600}[r.Intn(4)])
	switch r.Intn(4) {
	case 0:
		return strings.Repeat("\x00", n)
	case 1:
		return strings.Repeat(string("xyz"[r.Intn(3)]), n)
	}
	b := make([]byte, n)
	for i, seed := 0, r.Intn(4); i < n; i++ {
		b[i] = byte(i * i * (seed + i/7))
	}
	return string(b)
}

// anyOp is a call of any kind, most of them with arguments that may be.
func anyOp(r *rand.Rand) api.Op {
	h := r.Intn(2)
	switch r.Intn(24) {
	case 0, 1, 2, 3:
		return api.Op{Kind: api.OpOpen, Path: anyPath(r), Flags: []int{1, 1, 1, 1, 0, 5, 4, 3, 8}[r.Intn(9)]}
	case 4:
		return closing(h)
	case 5:
		return read(h, r.Intn(300), r.Intn(900))
	case 6, 7, 8, 9, 10:
		return write(h, r.Intn(500), anyData(r))
	case 11:
		return api.Op{Kind: api.OpTruncate, Handle: h, N: []int{0, 5, r.Intn(900), api.MaxFile}[r.Intn(4)]}
	case 12, 13:
		return by(api.OpMkdir, []string{"/a", "/d", "/d/a", "/b"}[r.Intn(4)])
	case 14:
		return by(api.OpRmdir, anyPath(r))
	case 15:
		return api.Op{Kind: api.OpLink, Path: anyPath(r), Other: anyPath(r)}
	case 16, 17:
		return by(api.OpUnlink, anyPath(r))
	case 18:
		return api.Op{Kind: api.OpRename, Path: anyPath(r), Other: anyPath(r)}
	case 19:
		return by([]int{api.OpStat, api.OpList}[r.Intn(2)], anyPath(r))
	case 20:
		return fsync(h)
	case 21:
		return of(api.OpClean)
	}
	return of(api.OpSync + r.Intn(7)) // one that is none, too
}

// anyShape is a volume's, mostly a small one.
func anyShape(r *rand.Rand) api.Shape {
	s := api.Shape{Sector: 512 << r.Intn(2), Sectors: []int{16, 20, 24, 40, 64, 100, 200}[r.Intn(7)], Pack: 2 + r.Intn(4), Bits: []int{0, 2, 256}[r.Intn(3)], Dedup: r.Intn(3) > 0}
	s.Journal = 2 + r.Intn(s.Sectors/4-1)
	normal := 16 << r.Intn(4)
	s.Cut = api.Cut{Min: 1 + r.Intn(normal), Normal: normal, Max: min(normal*(1+r.Intn(8)), s.Pack*s.Sector-40), Seed: r.Uint64()}
	return s
}

// anyKeep is places of pending writes, some of which there are.
func anyKeep(r *rand.Rand) []int {
	var l []int
	share := r.Intn(4)
	for i := range 40 {
		if r.Intn(3) < share {
			l = append(l, i)
		}
	}
	r.Shuffle(len(l), func(i, j int) { l[i], l[j] = l[j], l[i] })
	return l
}

// anyLives is lives the power of which goes at any moment, in the mount too.
func anyLives(r *rand.Rand, most int) []api.Life {
	var lives []api.Life
	syncs := r.Intn(3) // the fewer of them there are, the more is found behind some crashes
	for range 1 + r.Intn(6) {
		life := api.Life{Stop: r.Intn([]int{6, 30, 100}[r.Intn(3)]) - 1, Keep: anyKeep(r)}
		for range r.Intn(most) {
			o := anyOp(r)
			if o.Kind < api.OpFsync || o.Kind > api.OpCheckpoint || r.Intn(1+4*syncs) == 0 {
				life.Ops = append(life.Ops, o)
			}
		}
		lives = append(lives, life)
	}
	return lives
}

// textOf is lives as a text.
func textOf(s api.Shape, lives []api.Life) string {
	for i := range lives {
		lives[i].Ops = slices.DeleteFunc(slices.Clone(lives[i].Ops), func(o api.Op) bool { return o.Kind > api.OpRemount })
	}
	text, e := script.Print(s, lives)
	return fmt.Sprint(text, e)
}

// TestEveryCrash: P29.5: what becomes of any lives is explained, each mount is told OK, and so is all.
func TestEveryCrash(t *testing.T) {
	mounts, off, lost, half := 0, 0, 0, 0
	for seed := range 1500 {
		r := rand.New(rand.NewSource(int64(seed)))
		s, lives := anyShape(r), anyLives(r, 40)
		tale := crash.Play(s, lives)
		if tale.Err != api.OK {
			t.Fatalf("seed %d: %d\n%s", seed, tale.Err, textOf(s, lives))
		}
		if ok, at := crash.Explain(lives, tale); !ok {
			t.Fatalf("seed %d: not explained %d\n%s", seed, at, textOf(s, lives))
		}
		for i, x := range tale.Lives {
			if x.Mount != api.OK {
				t.Fatalf("seed %d, life %d: %d\n%s", seed, i, x.Mount, textOf(s, lives))
			}
			if x.Mounted {
				mounts++
			} else {
				off++
			}
			if x.Begun > x.Ended {
				half++
			}
			if x.Ended < len(lives[i].Ops) {
				lost++
			}
		}
	}
	if mounts < 1000 || off < 300 || lost < 1000 || half < 300 {
		t.Error("met", mounts, off, lost, half)
	}
}

// TestEveryMoment: P29.5: the power goes behind each write or flush of a life, and of the mount behind it, and any of what is pending persists.
func TestEveryMoment(t *testing.T) {
	for seed := range 6 {
		r := rand.New(rand.NewSource(int64(seed)))
		s := anyShape(r)
		var ops []api.Op
		for range 40 {
			ops = append(ops, anyOp(r))
		}
		n, e := crash.Writes(s, ops)
		if e != api.OK {
			t.Fatal("Writes", e)
		}
		for stop := range n + 2 {
			for again := range 8 {
				lives := []api.Life{{Ops: ops, Stop: stop, Keep: anyKeep(r)}, {Ops: ops[:3], Stop: again, Keep: anyKeep(r)}, {Stop: again}}
				tale := crash.Play(s, lives)
				if ok, at := crash.Explain(lives, tale); !ok || tale.Err != api.OK {
					t.Fatalf("seed %d: %d, not explained %d\n%s", seed, tale.Err, at, textOf(s, lives))
				}
			}
		}
	}
}

// TestSynced: P29.6: of one life whose last call is a sync that has ended the end is the items ahead of the crash, whatever persists.
func TestSynced(t *testing.T) {
	for seed := range 300 {
		r := rand.New(rand.NewSource(int64(seed)))
		s, life := anyShape(r), anyLives(r, 60)[0]
		life.Ops, life.Stop = append(life.Ops, of(api.OpSync)), -1
		tale := played(t, s, []api.Life{life})
		x := tale.Lives[0]
		if x.Ended != len(life.Ops) || x.Results[len(life.Ops)-1].Err != api.OK {
			t.Fatalf("seed %d: %+v", seed, x)
		}
		f, _ := newOne(t, s)
		for _, o := range life.Ops {
			f.Do(o)
		}
		if want, e := f.Items(); e != api.OK || !slices.Equal(tale.End, want) {
			t.Fatalf("seed %d: %+v, want %+v", seed, tale.End, want)
		}
	}
}

// TestLaterNothing: P29.7: what comes later changes nothing of what is told of the first lives; the writes of a life's operations are those of it alone.
func TestLaterNothing(t *testing.T) {
	for seed := range 150 {
		r := rand.New(rand.NewSource(int64(seed)))
		s, lives := anyShape(r), anyLives(r, 30)
		tale := played(t, s, lives)
		for n := range lives {
			first := played(t, s, lives[:n])
			for i, x := range first.Lives {
				wantSame(t, fmt.Sprint("seed ", seed, ", life ", i, " of ", n), x, tale.Lives[i])
			}
			if next := tale.Lives[n]; next.Mounted {
				wantItems(t, fmt.Sprint("seed ", seed, ", the end of ", n), first.End, next.Items...)
			}
		}
		alone := played(t, s, []api.Life{{Ops: lives[0].Ops, Stop: -1, Keep: lives[0].Keep}})
		if n, e := crash.Writes(s, lives[0].Ops); n != alone.Lives[0].Writes || e != api.OK {
			t.Error("Writes", n, e, "want", alone.Lives[0].Writes)
		}
	}
}
