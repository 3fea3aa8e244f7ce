package fsck_test

import (
	"bytes"
	"math/rand"
	"slices"
	"testing"

	"dedup/api"
	"dedup/fs"
	"dedup/fsck"
	"dedup/tree"
)

// verdict is what Check tells of any bytes: always the same, as Parts tell it; the bytes stay; of what it calls clean a mount is not refused, all that it finds is right, and can be read.
func verdict(t *testing.T, size int, image []byte) api.Verdict {
	t.Helper()
	was := slices.Clone(image)
	v := fsck.Check(size, image)
	if again := fsck.Check(size, image); v != again {
		t.Fatal("another verdict", v, again)
	}
	if !bytes.Equal(was, image) {
		t.Fatal("the image has changed")
	}
	if !v.Clean {
		if v != (api.Verdict{Part: v.Part, Err: v.Err}) || fsck.Name(v.Part) == "" || v.Err == api.OK {
			t.Fatalf("%+v", v)
		}
		want(t, "any bytes", size, image, v.Part, v.Err)
		return v
	}
	want(t, "any bytes", size, image, 0, api.OK)
	f, e := fs.Mount(load(t, size, image))
	if e != api.OK {
		t.Fatal("a mount of what is clean", e)
	}
	if e := f.Right(); e != api.OK {
		t.Fatal("what it finds", e)
	}
	l, e := f.Items()
	if e != api.OK {
		t.Fatal("Items", e)
	}
	for _, x := range l {
		if len(x.Data) != x.Stat.Size {
			t.Error("a file", x.Stat)
		}
	}
	want(t, "behind the mount", size, imageOf(f), 0, api.OK)
	return v
}

// TestAnyBytes: P28.3: bytes of no volume.
func TestAnyBytes(t *testing.T) {
	r := rand.New(rand.NewSource(1))
	for range 300 {
		image := make([]byte, r.Intn(40)*256)
		r.Read(image)
		size := []int{512, 512, 1024, r.Intn(5000) - 500}[r.Intn(4)]
		if v := verdict(t, size, image); v.Part != api.PartSuper {
			t.Errorf("%+v", v)
		}
	}
}

// older is images of a disk in the life of a file system, one behind the other.
func older(t *testing.T, r *rand.Rand, s api.Shape) [][]byte {
	t.Helper()
	f := filled(t, s)
	l := [][]byte{imageOf(f)}
	for range 12 {
		for range 4 {
			f.Do(anyOp(r))
		}
		f.Do(api.Op{Kind: api.OpSync})
		l = append(l, imageOf(f))
	}
	return l
}

// TestTurned: P28.3, P28.5: images of which bits are turned, or sectors are zeros, other sectors' bytes, or what they were at another time.
func TestTurned(t *testing.T) {
	met := map[int]int{}
	for seed := range 12 {
		r := rand.New(rand.NewSource(int64(seed)))
		s := someShape(64 + r.Intn(64))
		s.Journal, s.Dedup = 4+r.Intn(8), r.Intn(2) == 0
		images := older(t, r, s)
		for range 60 {
			image := slices.Clone(images[r.Intn(len(images))])
			for range 1 + r.Intn(3) {
				n := r.Intn(s.Sectors)
				if r.Intn(2) == 0 {
					n = r.Intn(30)
				}
				from := images[r.Intn(len(images))]
				switch r.Intn(6) {
				case 0:
					image[n*512+r.Intn(512)] ^= 1 << r.Intn(8)
				case 1:
					image = with(image, n, make([]byte, 512))
				case 2:
					k := r.Intn(s.Sectors)
					image = with(image, n, from[k*512:(k+1)*512])
				default:
					image = with(image, n, from[n*512:(n+1)*512])
				}
			}
			met[verdict(t, 512, image).Part]++
		}
	}
	for _, part := range []int{0, api.PartTree, api.PartJournal, api.PartChunks} {
		if met[part] == 0 {
			t.Error("never", part, met)
		}
	}
}

// anyEdit changes something in a tree.
func anyEdit(t *testing.T, r *rand.Rand, u *tree.Tree) *tree.Tree {
	t.Helper()
	var keys, values []string
	for k, value := range u.Scan("", "") {
		keys, values = append(keys, k), append(values, value)
	}
	i, j := r.Intn(len(keys)), r.Intn(len(keys))
	switch k := keys[i]; r.Intn(6) {
	case 0:
		return remove(k)(t, u)
	case 1:
		return put(k, values[j])(t, u)
	case 2:
		b := []byte(k)
		b[r.Intn(len(b))] ^= 1 << r.Intn(8)
		return put(string(b), values[i])(t, u)
	default:
		b := []byte(values[i])
		if len(b) > 0 {
			b[len(b)-1-r.Intn(len(b))] += byte(r.Intn(3) - 1)
		}
		return put(k, string(b))(t, u)
	}
}

// TestEdited: P28.3, P28.5: trees that have other keys and values, in the superblock's tree and in the journal.
func TestEdited(t *testing.T) {
	met := map[int]int{}
	for seed := range 12 {
		r := rand.New(rand.NewSource(int64(seed)))
		s := someShape(128)
		s.Journal = 20
		image := imageOf(filled(t, s))
		for range 60 {
			u := treeOf(t, 512, image)
			for range 1 + r.Intn(2) {
				u = anyEdit(t, r, u)
			}
			v := verdict(t, 512, laid(t, 512, image, u))
			met[v.Part]++
			if w := verdict(t, 512, changed(t, 512, image, u)); (w.Part != v.Part || w.Err != v.Err) && w.Part != api.PartSpace {
				t.Error("in the tree", v, "in the journal", w)
			}
		}
	}
	for part := api.PartKeys; part <= api.PartChunks; part++ {
		if met[part] == 0 || met[0] == 0 {
			t.Error("never", part, met)
		}
	}
}
