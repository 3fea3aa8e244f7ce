package clean_test

import (
	"maps"
	"math/rand"
	"slices"
	"testing"

	"dedup/api"
	"dedup/chunk"
	"dedup/clean"
	"dedup/disk"
)

// anyBook is a book on which chunks of any lengths were put, counted and moved, some of them in books ahead of it.
func anyBook(t *testing.T, r *rand.Rand, s api.Shape) (*chunk.Book, *disk.Disk) {
	t.Helper()
	b, d := newBook(t, s)
	for range 10 + r.Intn(40) {
		l := slices.Collect(b.Chunks())
		id := 0
		if len(l) > 0 {
			id = l[r.Intn(len(l))].Id
		}
		switch r.Intn(12) {
		case 0:
			b.Incr(id)
		case 1, 2, 3, 4:
			b.Decr(id)
		case 5:
			b.Move(id)
		case 6:
			write(b, d)
		case 7:
			if r.Intn(3) == 0 {
				b = again(t, b, d)
				b.Space().Settle()
			}
		default:
			data := make([]byte, 1+r.Intn([]int{40, 300, roomOf}[r.Intn(3)]))
			r.Read(data)
			b.Put(data)
		}
	}
	return b, d
}

// stepOf is a step by the words, by calls on a book alone.
func stepOf(b *chunk.Book) (api.Cleaned, bool, api.Errno) {
	containers, _ := b.Containers()
	var victim *api.Container
	for i, k := range containers {
		if !k.Open && k.Slots > k.Live && (victim == nil || k.Bytes < victim.Bytes) {
			victim = &containers[i]
		}
	}
	if victim == nil {
		return api.Cleaned{}, false, api.OK
	}
	told := api.Cleaned{Container: victim.Id}
	if victim.Live == 0 {
		return told, true, b.Drop(victim.Id)
	}
	for id := 1; id < 1000; id++ {
		for x := range b.Chunks() {
			if x.Id != id || x.Container != victim.Id {
				continue
			}
			if e := b.Move(id); e != api.OK {
				return told, true, e
			}
			told.Moved++
			told.Bytes += x.Length
			break
		}
	}
	return told, true, api.OK
}

// wantSame holds that two books are the same.
func wantSame(t *testing.T, a, b *chunk.Book) {
	t.Helper()
	k, _ := a.Containers()
	l, _ := b.Containers()
	same := maps.Equal(maps.Collect(a.Tree().Scan("", "")), maps.Collect(b.Tree().Scan("", ""))) && slices.Equal(k, l) && a.Space().Bits() == b.Space().Bits() && a.Space().Waiting() == b.Space().Waiting()
	if !same || !maps.Equal(contents(a), contents(b)) {
		t.Fatal("books are not the same", k, l)
	}
}

// TestAsPlain: P22.1 to P22.4: whatever was done, a step does and tells what the words say; chunks tell the same behind it; a run does as many as there are containers at most.
func TestAsPlain(t *testing.T) {
	r := rand.New(rand.NewSource(22))
	cleaned, refused, most := 0, 0, 0
	for i := range 400 {
		s := someShape([]int{16, 20, 64, 64}[i%4])
		s.Dedup = r.Intn(2) == 0
		b, d := anyBook(t, r, s)
		if r.Intn(3) == 0 {
			b = again(t, b, d)
		}
		was, other, run := contents(b), b.Fork(), b.Fork()
		containers, _ := b.Containers()
		var l []api.Cleaned
		for n := 0; ; n++ {
			want, is, why := stepOf(other)
			wantStep(t, "as plain", b, want, is, why)
			wantSame(t, b, other)
			if !is || why != api.OK {
				wantRun(t, "as plain", run, len(containers), why, l...)
				break
			}
			if l = append(l, want); n > len(containers) {
				t.Fatal("there is no end")
			}
		}
		wantSame(t, b, run)
		if !maps.Equal(contents(run), was) {
			t.Error("chunks are other ones")
		}
		if _, is := clean.Victim(run); !is {
			wantVictim(t, "then", run, 0, 0)
			cleaned, most = cleaned+len(l), max(most, len(l))
		} else {
			refused++
		}
	}
	if cleaned < 300 || refused < 5 || most < 5 {
		t.Error("too few", cleaned, refused, most)
	}
}

// TestDead: P22.1: slots of containers that can be cleaned, less the live ones, container by container.
func TestDead(t *testing.T) {
	r := rand.New(rand.NewSource(221))
	seen := 0
	for range 100 {
		b, _ := anyBook(t, r, someShape(64))
		want := 0
		l, _ := b.Containers()
		for _, k := range l {
			if !k.Open {
				want += k.Slots - k.Live
			}
		}
		if n := clean.Dead(b); n != want {
			t.Error("Dead", n, "want", want)
		}
		seen += want
	}
	if seen < 100 {
		t.Error("too few", seen)
	}
}

// TestWrongRecords: P22.2, R1: records that are not as they should be: a step ends, and a run too.
func TestWrongRecords(t *testing.T) {
	b, d := newBook(t, someShape(64))
	put(t, b, 10, 20, 30, roomOf)
	write(b, d)
	right := b.Tree()
	for what, c := range map[string]struct {
		key, value string
		want       api.Cleaned
		did        bool
		why        api.Errno
	}{
		"a slot more":           {keyOf('k', 1), numbers(6, 4, 3), api.Cleaned{Container: 1, Moved: 3, Bytes: 60}, true, api.OK},
		"live ones too many":    {keyOf('k', 1), numbers(6, 5, 4), api.Cleaned{Container: 1, Moved: 3, Bytes: 60}, true, api.OK},
		"live ones too few":     {keyOf('k', 1), numbers(6, 3, 2), api.Cleaned{Container: 1, Moved: 2, Bytes: 30}, true, api.ErrChunk},
		"live ones without one": {keyOf('k', 7), numbers(6, 3, 2), api.Cleaned{Container: 7}, true, api.ErrChunk},
		"no record":             {keyOf('k', 1), "?", api.Cleaned{}, false, api.OK},
		"no chunk's record":     {keyOf('c', 1), "?", api.Cleaned{}, false, api.OK},
	} {
		f := b.Fork()
		x, _ := right.Put(c.key, c.value)
		f.Set(x)
		if got, is, e := clean.Step(f); got != c.want || is != c.did || e != c.why {
			t.Error(what, "Step", got, is, e, "want", c.want, c.did, c.why)
		}
		if l, _ := clean.Run(f, 100); len(l) > 2 {
			t.Error(what, "Run", l)
		}
	}
}
