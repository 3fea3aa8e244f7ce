package model_test

import (
	"math/rand"
	"slices"
	"strings"
	"testing"

	"dedup/api"
	"dedup/model"
)

// wantTree holds what follows of items: paths rise, each one's parent is a directory's, each directory is named once, links are as many as there are names or directories in it.
func wantTree(t *testing.T, l []api.Item) {
	t.Helper()
	links, of := map[int]int{}, map[string]api.Item{}
	for i, x := range l {
		if i > 0 && l[i-1].Path >= x.Path {
			t.Fatal("paths do not rise", l[i-1].Path, x.Path)
		}
		of[x.Path] = x
		if x.Stat.Dir {
			if links[x.Stat.Number] > 0 {
				t.Fatal("named twice", x)
			}
			links[x.Stat.Number] = 2
		}
	}
	for _, x := range l {
		if x.Path == "/" {
			continue
		}
		above := x.Path[:strings.LastIndexByte(x.Path, '/')]
		if above == "" {
			above = "/"
		}
		in := of[above].Stat
		if !in.Dir {
			t.Fatal("no directory above", x.Path)
		}
		if x.Stat.Dir {
			links[in.Number]++
		} else {
			links[x.Stat.Number]++
		}
	}
	if root := of["/"].Stat; root.Number != 1 || !root.Dir {
		t.Fatal("no root", root)
	}
	for _, x := range l {
		if x.Stat.Links != links[x.Stat.Number] || x.Stat.Size != len(x.Data) || x.Stat.Dir && x.Data != "" {
			t.Fatal("stat", x.Path, x.Stat, "links", links[x.Stat.Number], "bytes", len(x.Data))
		}
	}
}

// TestATree: P23.4, P23.5: whatever is called, Items are a tree, and numbers are below the next one, which never falls.
func TestATree(t *testing.T) {
	r := rand.New(rand.NewSource(234))
	most := 0
	for range 40 {
		w := model.New()
		for range 500 {
			next := w.Next()
			w.Do(anyOp(r))
			l := w.Items()
			wantTree(t, l)
			most = max(most, len(l))
			if w.Next() < next || w.Next() > next+1 {
				t.Fatal("Next", next, w.Next())
			}
			for _, x := range l {
				if x.Stat.Number >= w.Next() {
					t.Fatal("a number that was not given", x.Stat, w.Next())
				}
			}
		}
	}
	if most < 12 {
		t.Error("too few things", most)
	}
}

// TestRefusedIsNothing: P23.5: a world where calls were refused is told the same as one where they were never made.
func TestRefusedIsNothing(t *testing.T) {
	r := rand.New(rand.NewSource(235))
	refused := 0
	for range 40 {
		w, u := model.New(), model.New()
		for range 300 {
			o := anyOp(r)
			got := w.Do(o)
			if got.Err != api.OK {
				refused++
				if !sameResult(got, api.Result{Err: got.Err}) {
					t.Fatal("beside an error", short(o), tell(got))
				}
				continue
			}
			if want := u.Do(o); !sameResult(got, want) {
				t.Fatal(short(o), tell(got), "want", tell(want))
			}
		}
		if !slices.Equal(w.Items(), u.Items()) || w.Next() != u.Next() {
			t.Fatal("changed by what was refused")
		}
	}
	if refused < 1000 {
		t.Error("too few", refused)
	}
}

// TestFilesAreBytes: P23.6: what is read is what was written there last.
func TestFilesAreBytes(t *testing.T) {
	r := rand.New(rand.NewSource(236))
	w := model.New()
	w.Do(api.Op{Kind: api.OpOpen, Path: "/f", Flags: api.FlagCreate})
	var b []byte
	for range 2000 {
		switch r.Intn(4) {
		case 0, 1:
			at, data := r.Intn(300), anyData(r)
			if data != "" {
				b = append(b, make([]byte, max(0, at+len(data)-len(b)))...)
				copy(b[at:], data)
			}
			wantResult(t, w, api.Op{Kind: api.OpWrite, Offset: at, Data: data[:min(len(data), api.MaxIO)]}, api.Result{N: min(len(data), api.MaxIO)})
			if len(data) > api.MaxIO { // that much of it was written alone
				wantResult(t, w, api.Op{Kind: api.OpWrite, Offset: at + api.MaxIO, Data: data[api.MaxIO:]}, api.Result{N: len(data) - api.MaxIO})
			}
		case 2:
			n := r.Intn(400)
			b = append(b, make([]byte, max(0, n-len(b)))...)[:n]
			wantResult(t, w, api.Op{Kind: api.OpTruncate, N: n}, api.Result{})
		case 3:
			at, n := r.Intn(400), r.Intn(400)
			wantResult(t, w, api.Op{Kind: api.OpRead, Offset: at, N: n}, api.Result{Data: string(b[min(at, len(b)):min(at+n, len(b))])})
		}
		if l := w.Items(); l[1].Data != string(b) {
			t.Fatal("Items", len(l[1].Data), len(b))
		}
	}
}

// TestOneFile: P23.7: what is written by one link is read by all of them; by a descriptor it is read, though no link is left.
func TestOneFile(t *testing.T) {
	w := model.New()
	wantResult(t, w, api.Op{Kind: api.OpMkdir, Path: "/d"}, api.Result{})
	wantResult(t, w, api.Op{Kind: api.OpOpen, Path: "/f", Flags: api.FlagCreate}, api.Result{Handle: 0})
	wantResult(t, w, api.Op{Kind: api.OpLink, Path: "/f", Other: "/d/g"}, api.Result{})
	wantResult(t, w, api.Op{Kind: api.OpLink, Path: "/d/g", Other: "/h"}, api.Result{})
	for h, p := range []string{"/f", "/d/g", "/h"} {
		wantResult(t, w, api.Op{Kind: api.OpOpen, Path: p}, api.Result{Handle: h + 1})
	}
	for h, data := range []string{"abc", "defg", "hi", "jklmn"} {
		wantResult(t, w, api.Op{Kind: api.OpTruncate, Handle: h}, api.Result{})
		wantResult(t, w, api.Op{Kind: api.OpWrite, Handle: h, Data: data}, api.Result{N: len(data)})
		for other := range 4 {
			wantResult(t, w, api.Op{Kind: api.OpRead, Handle: other, N: 9}, api.Result{Data: data})
		}
		for _, p := range []string{"/f", "/d/g", "/h"} {
			wantResult(t, w, api.Op{Kind: api.OpStat, Path: p}, api.Result{Stat: api.Stat{Number: 3, Size: len(data), Links: 3}})
		}
	}
	for _, p := range []string{"/f", "/h", "/d/g"} {
		wantResult(t, w, api.Op{Kind: api.OpUnlink, Path: p}, api.Result{})
	}
	wantItems(t, w, item("/", 1, 3), item("/d", 2, 2))
	wantResult(t, w, api.Op{Kind: api.OpWrite, Handle: 2, Offset: 5, Data: "op"}, api.Result{N: 2})
	for _, h := range []int{1, 0, 3} {
		wantResult(t, w, api.Op{Kind: api.OpRead, Handle: h, N: 9}, api.Result{Data: "jklmnop"})
		wantResult(t, w, api.Op{Kind: api.OpClose, Handle: h}, api.Result{})
	}
	wantResult(t, w, api.Op{Kind: api.OpRead, Handle: 2, N: 9}, api.Result{Data: "jklmnop"})
	wantResult(t, w, api.Op{Kind: api.OpOpen, Path: "/f"}, api.Result{Err: api.ENoEnt})
}

// TestRestarted: P23.8: Restart of Restart is Restart; Do behind it is told as in a world that was remounted; the world itself goes on.
func TestRestarted(t *testing.T) {
	r := rand.New(rand.NewSource(238))
	for range 300 {
		w := model.New()
		for range r.Intn(80) {
			w.Do(anyOp(r))
		}
		was := w.Fork()
		one := w.Restart()
		two := one.Restart()
		three := w.Fork()
		if got := three.Do(api.Op{Kind: api.OpRemount}); !sameResult(got, api.Result{}) {
			t.Fatal("Remount", got)
		}
		for _, u := range []*model.World{one, two, three} {
			if !slices.Equal(u.Items(), w.Items()) || u.Next() != w.Next() {
				t.Fatal("another world", u.Items(), w.Items())
			}
		}
		for h := range api.MaxHandles {
			wantResult(t, one, api.Op{Kind: api.OpFsync, Handle: h}, api.Result{Err: api.EBadF})
		}
		for range 60 {
			o := anyOp(r)
			a, b, c := one.Do(o), two.Do(o), three.Do(o)
			if !sameResult(a, b) || !sameResult(a, c) {
				t.Fatal(short(o), tell(a), tell(b), tell(c))
			}
			o = anyOp(r)
			if a, b := w.Do(o), was.Do(o); !sameResult(a, b) {
				t.Fatal("the world itself", short(o), tell(a), tell(b))
			}
		}
		if !slices.Equal(one.Items(), two.Items()) || !slices.Equal(one.Items(), three.Items()) || !slices.Equal(w.Items(), was.Items()) {
			t.Fatal("another world behind the same calls")
		}
	}
}
