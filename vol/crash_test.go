package vol_test

import (
	"fmt"
	"maps"
	"math/rand"
	"slices"
	"testing"

	"dedup/api"
	"dedup/chunk"
	"dedup/clean"
	"dedup/disk"
	"dedup/file"
	"dedup/inode"
	"dedup/space"
	"dedup/tree"
	"dedup/vol"
)

// state is a volume's, as it was present: all trees and spaces stay as they were.
type state struct {
	tree   *tree.Tree
	space  *space.Space
	chunks map[int]string
}

// freed is what a mount that frees a state's orphans tells; what it tells as it is, if that does not fit.
func (x state) freed(t *testing.T, s api.Shape, d *disk.Disk) map[string]string {
	t.Helper()
	b, e := chunk.New(s, x.tree, x.space.Fork(), d)
	if e != api.OK {
		t.Fatal("New", e)
	}
	free(t, b)
	return pairs(b.Tree())
}

// life is what is done to a volume, and the states that were present, one behind the other; those from floor on may be found behind a crash.
type life struct {
	t      *testing.T
	r      *rand.Rand
	v      *vol.Vol
	states []state
	floor  int
	full   int // commits that were refused
}

// seen lets the present state be one that may be found.
func (l *life) seen() {
	l.t.Helper()
	b := l.v.Book()
	l.states = append(l.states, state{tree: b.Tree(), space: b.Space().Fork(), chunks: contents(l.t, b)})
}

// lasts lets the present state be the first one that may be found, if the power is not gone.
func (l *life) lasts() {
	if !l.v.Disk().Off() {
		l.floor = len(l.states) - 1
	}
}

// plainIds is the chunks that no file has: those of small bytes.
func plainIds(b *chunk.Book) []int {
	var l []int
	for x := range b.Chunks() {
		if data, e := b.Get(x.Id); e == api.OK && data[0] < 128 {
			l = append(l, x.Id)
		}
	}
	return l
}

// anyOf is one of a list; 0, if it is empty.
func (l *life) anyOf(ids []int) int {
	if len(ids) == 0 {
		return 0
	}
	return ids[l.r.Intn(len(ids))]
}

// anyOrphan makes a file without a name; what is refused is told.
func (l *life) anyOrphan(b *chunk.Book) api.Errno {
	u, x, e := inode.New(b.Tree(), false, 0)
	if e != api.OK {
		return e
	}
	b.Set(u)
	data := make([]byte, 1+l.r.Intn(150))
	for i := range data {
		data[i] = byte(128 + l.r.Intn(128))
	}
	if x.Size, e = file.Write(b, x.Number, 0, l.r.Intn(50), string(data)); e != api.OK {
		return e
	}
	if u, e = inode.Put(b.Tree(), x); e != api.OK {
		return e
	}
	if u, e = inode.Orphan(u, x.Number); e != api.OK {
		return e
	}
	return b.Set(u)
}

// change does something to a transaction's book; what is refused is told.
func (l *life) change(b *chunk.Book) api.Errno {
	r := l.r
	switch r.Intn(12) {
	case 0, 1, 2:
		put(b, fmt.Sprintf("z%02d", r.Intn(60)), fmt.Sprintf("%0*d", r.Intn(60), r.Intn(10)))
	case 3:
		remove(b, fmt.Sprintf("z%02d", r.Intn(60)))
	case 4, 5, 6:
		data := make([]byte, 1+r.Intn([]int{20, 200, 800}[r.Intn(3)]))
		data[0] = byte(r.Intn(5)) // the others are zeros, or not
		for i := range data[:len(data)*r.Intn(2)] {
			data[i] = byte(1 + r.Intn(5))
		}
		_, e := b.Put(data)
		return e
	case 7, 8:
		b.Decr(l.anyOf(plainIds(b)))
	case 9:
		if r.Intn(2) == 0 {
			b.Move(l.anyOf(plainIds(b)))
			break
		}
		_, _, e := clean.Step(b)
		return e
	case 10:
		return l.anyOrphan(b)
	case 11:
		if r.Intn(4) == 0 {
			free(l.t, b)
		}
	}
	return api.OK
}

// maintain does something that is told nowhere.
func (l *life) maintain() {
	l.t.Helper()
	was, told := l.v.Book().Tree(), l.states[len(l.states)-1].chunks
	switch l.r.Intn(8) {
	case 0, 1, 2:
		if e := l.v.Sync(); e != api.OK {
			l.t.Fatal("Sync", e)
		}
		l.lasts()
	case 3, 4:
		if _, e := l.v.Checkpoint(); e != api.OK {
			l.t.Fatal("Checkpoint", e)
		}
		l.lasts()
	case 5:
		l.v.Compact()
	case 6:
		if !l.v.Disk().Off() { // what was not written would be read
			l.v.Drop()
		}
	}
	if !l.v.Disk().Off() && (!maps.Equal(pairs(was), pairs(l.v.Book().Tree())) || !maps.Equal(told, contents(l.t, l.v.Book()))) {
		l.t.Fatal("maintenance changes something")
	}
}

// step is a transaction, or maintenance, or a mount.
func (l *life) step() {
	l.t.Helper()
	switch what := l.r.Intn(20); {
	case what < 7:
		l.maintain()
	case what == 7 && l.r.Intn(3) == 0:
		l.remount()
	default:
		l.transact()
	}
}

// remount is a mount behind a sync.
func (l *life) remount() {
	l.t.Helper()
	l.v.Sync()
	l.lasts()
	w, e := vol.Open(l.v.Disk())
	if l.v.Disk().Off() {
		return // it may have read what was not written
	}
	if e != api.OK {
		l.t.Fatal("Open", e)
	}
	l.v = w
	l.seen()
	l.lasts()
}

// transact is a transaction, which may be thrown away, or kept waiting by maintenance.
func (l *life) transact() {
	l.t.Helper()
	x := l.v.Begin()
	for range 1 + l.r.Intn(4) {
		if l.change(x.Book()) != api.OK {
			return
		}
	}
	if l.r.Intn(8) == 0 {
		return
	}
	if l.r.Intn(6) == 0 {
		l.maintain()
	}
	generation, was := l.v.Super().Generation, l.v.Book().Tree()
	want := pairs(x.Book().Tree())
	switch e := l.v.Commit(x); e {
	case api.OK:
		if !maps.Equal(pairs(l.v.Book().Tree()), want) {
			l.t.Fatal("not what was committed")
		}
		l.seen()
		if l.v.Super().Generation != generation {
			l.lasts()
		}
	case api.ErrFull:
		l.full++
		if l.v.Book().Tree() != was || l.v.Super().Generation != generation {
			l.t.Fatal("what is refused changes something")
		}
	default:
		l.t.Fatal("Commit", e)
	}
}

// play does so many steps, till the power goes.
func (l *life) play(steps int) {
	l.t.Helper()
	for range steps {
		if l.step(); l.v.Disk().Off() {
			return
		}
	}
}

// anyKeep is any of the pending writes.
func anyKeep(r *rand.Rand, d *disk.Disk) []int {
	var keep []int
	some := r.Intn(4)
	for i := range d.Pending() {
		if some == 0 || some < 3 && r.Intn(2) == 0 {
			keep = append(keep, i)
		}
	}
	return keep
}

// found holds that a volume is what it may be behind a crash of a life: which state it is.
func (l *life) found(w *vol.Vol) int {
	l.t.Helper()
	wantRight(l.t, w)
	wantSpace(l.t, w, 0)
	now, told := pairs(w.Book().Tree()), contents(l.t, w.Book())
	for i := len(l.states) - 1; i >= l.floor; i-- {
		x := l.states[i]
		if !maps.Equal(now, x.freed(l.t, w.Super().Shape, w.Disk())) && !maps.Equal(now, pairs(x.tree)) {
			continue
		}
		for id, data := range told {
			if x.chunks[id] != data {
				l.t.Fatal("a chunk has other bytes", id)
			}
		}
		return i
	}
	l.t.Fatal("no state that was present", l.floor, len(l.states))
	return 0
}

// crash lets the power go for good, and mounts what is there: also where the power goes in the mount.
func (l *life) crash() {
	l.t.Helper()
	d := l.v.Disk()
	if e := d.Crash(anyKeep(l.r, d)); e != api.OK {
		l.t.Fatal("Crash", e)
	}
	other := d.Fork()
	w := open(l.t, d)
	at := l.found(w)
	for n := range 8 {
		again := other.Fork()
		again.Stop(n)
		vol.Open(again)
		again.Crash(anyKeep(l.r, again))
		if l.r.Intn(2) == 0 {
			again.Stop(l.r.Intn(6))
			vol.Open(again)
			again.Crash(anyKeep(l.r, again))
		}
		u := open(l.t, again)
		if !maps.Equal(pairs(u.Book().Tree()), pairs(w.Book().Tree())) && l.found(u) != at {
			l.t.Fatal("a crash in a mount changes something")
		}
	}
	l.v = w
	l.states = l.states[:at+1]
	l.seen()
	l.floor = len(l.states) - 1
}

// crashShapes is those of the volumes that crash.
func crashShapes() []api.Shape {
	one := someShape()
	two := one
	two.Sectors, two.Journal, two.Pack, two.Bits = 200, 12, 4, 0
	three := one
	three.Sectors, three.Journal, three.Dedup = 32, 2, false
	four := one
	four.Sector, four.Sectors, four.Journal, four.Bits = 1024, 20, 5, 3
	five := one
	five.Sectors, five.Journal = 512, 100
	return []api.Shape{one, two, three, four, five}
}

// crashSeeds is how many lives there are of which some moments are looked at.
const crashSeeds = 30

// TestCrashes: P25.8 to P25.11: wherever the power goes, a mount finds a state that was present, not earlier than the last sync, checkpoint or mount; all is right then, and goes on.
func TestCrashes(t *testing.T) {
	found := map[int]int{}
	for seed := range crashSeeds {
		s := crashShapes()[seed%5]
		play := func(stop int) *life {
			v := format(t, s)
			l := &life{t: t, r: rand.New(rand.NewSource(int64(seed))), v: v}
			l.seen()
			v.Disk().Stop(stop)
			l.play(25)
			return l
		}
		l := play(-1)
		_, writes, flushes := l.v.Disk().Counts()
		r := rand.New(rand.NewSource(int64(1000 + seed)))
		for range 12 {
			l := play(r.Intn(writes + flushes - 3))
			l.r = rand.New(rand.NewSource(r.Int63()))
			for range 3 {
				last := len(l.states) - 1
				l.crash()
				found[min(last-(len(l.states)-2), 3)]++
				l.v.Disk().Stop(l.r.Intn(30))
				l.play(12)
			}
			l.crash()
		}
	}
	for i := range 4 {
		if found[i] < 20 {
			t.Error("too seldom", found)
		}
	}
}

// TestEveryMoment: P25.8, P25.9: of one life each moment, and of each moment all that persists or nothing, and each write alone.
func TestEveryMoment(t *testing.T) {
	s := someShape()
	for seed := range 5 {
		for stop := 0; ; stop++ {
			v := format(t, s)
			l := &life{t: t, r: rand.New(rand.NewSource(int64(77 + seed))), v: v}
			l.seen()
			v.Disk().Stop(stop)
			l.play(14)
			if !l.v.Disk().Off() {
				break
			}
			pending := len(l.v.Disk().Pending())
			keeps := [][]int{nil, slices.Collect(upTo(pending))}
			for i := range pending {
				keeps = append(keeps, []int{i})
			}
			for _, keep := range keeps {
				d := l.v.Disk().Fork()
				d.Crash(keep)
				l.found(open(t, d))
			}
		}
	}
}

// upTo goes over the numbers below n.
func upTo(n int) func(yield func(int) bool) {
	return func(yield func(int) bool) {
		for i := range n {
			if !yield(i) {
				return
			}
		}
	}
}

// TestSyncLasts: P25.8: what was synced is found, also where nothing that was pending persists; what was not, is not.
func TestSyncLasts(t *testing.T) {
	v := format(t, someShape())
	mustCommit(t, v, putKeys(0, 2))
	mustCommit(t, v, putChunks(100))
	if v.Sync() != api.OK {
		t.Error("Sync")
	}
	want := pairs(v.Book().Tree())
	mustCommit(t, v, putKeys(10, 2))
	v.Disk().Crash(nil)
	w := open(t, v.Disk())
	if !maps.Equal(pairs(w.Book().Tree()), want) || len(contents(t, w.Book())) != 1 {
		t.Error("not what was synced")
	}
}

// TestItFits: P25.10: of volumes that are nearly full, whatever was committed can be laid down, and is found by a mount.
func TestItFits(t *testing.T) {
	full := 0
	for seed := range 150 {
		s := someShape()
		s.Sectors = 16 + seed%13
		s.Journal = 2 + seed%3
		s.Dedup = seed%2 == 0
		l := &life{t: t, r: rand.New(rand.NewSource(int64(2500 + seed))), v: format(t, s)}
		l.seen()
		l.play(60) // each checkpoint on the way must not be refused
		full += l.full
		last := l.v.Book().Tree()
		if l.v.Sync() != api.OK {
			t.Fatal("Sync")
		}
		d := l.v.Disk().Fork()
		d.Crash(nil)
		open(t, d)
		if _, e := l.v.Checkpoint(); e != api.OK || !maps.Equal(pairs(last), pairs(l.v.Book().Tree())) {
			t.Fatal("Checkpoint", e)
		}
	}
	if full < 100 {
		t.Error("too seldom full", full)
	}
}

// TestLetGoBetween: P25.9: a container that came and went since the last sync is written where a crash may leave the first ones of the records: a mount finds its chunks.
func TestLetGoBetween(t *testing.T) {
	make := func() *vol.Vol {
		v := format(t, someShape())
		mustCommit(t, v, putChunks(900, 100)) // in 7 and 8, in 9
		mustCommit(t, v, putKeys(0, 8))       // so that the records end in other sectors
		mustCommit(t, v, func(b *chunk.Book) { b.Decr(1) })
		return v
	}
	wantGroups(t, "Sync", make, sync, []int{7, 8, 9}, []int{2, 3})
	for _, keep := range [][]int{nil, {0}, {1}, {0, 1}} {
		v := make()
		v.Disk().Stop(3 + 1 + 2)
		v.Sync()
		v.Disk().Crash(keep)
		w := open(t, v.Disk())
		wantRight(t, w)
		wantSpace(t, w, 0)
		want := map[int]int{0: 0, 1: 2, 2: 1}[len(keep)]
		if slices.Equal(keep, []int{1}) {
			want = 0
		}
		if l := contents(t, w.Book()); len(l) != want {
			t.Error("chunks", keep, len(l), "want", want)
		}
	}
	short := func() *vol.Vol {
		v := format(t, someShape())
		mustCommit(t, v, putChunks(900, 100))
		mustCommit(t, v, func(b *chunk.Book) { b.Decr(1) })
		return v
	}
	wantGroups(t, "Sync of records in one sector", short, sync, []int{9}, []int{2})
	again := func() *vol.Vol {
		v := make()
		v.Sync()
		mustCommit(t, v, putKeys(20, 16))
		return v
	}
	wantGroups(t, "Sync again", again, sync, []int{4, 5})
	wantGroups(t, "Checkpoint", make, checkpoint, []int{9}, []int{11, 12, 13}, []int{0})
}

// TestLetGoTwice: P25.9: containers that went in one commit and in another one are all written; a checkpoint ahead of the sync lets them be written no more, as other things lie there then.
func TestLetGoTwice(t *testing.T) {
	make := func() *vol.Vol {
		v := format(t, someShape())
		mustCommit(t, v, putChunks(900, 901, 100)) // in 7, 9 and 11
		mustCommit(t, v, putKeys(0, 8))
		mustCommit(t, v, func(b *chunk.Book) { b.Decr(1) })
		mustCommit(t, v, func(b *chunk.Book) { b.Decr(2) })
		return v
	}
	wantGroups(t, "Sync", make, sync, []int{7, 8, 9, 10, 11}, []int{2, 3})
	v := make()
	v.Checkpoint()
	mustCommit(t, v, putKeys(0, 20))
	if v.Checkpoint(); !slices.ContainsFunc(mustSectors(t, v), func(n int) bool { return n >= 7 && n <= 10 }) {
		t.Fatal("no node lies there", mustSectors(t, v))
	}
	mustCommit(t, v, putKeys(30, 16))
	v.Sync()
	w := open(t, v.Disk())
	wantRight(t, w)
	if !maps.Equal(pairs(w.Book().Tree()), pairs(v.Book().Tree())) {
		t.Error("behind a mount")
	}
}

// TestZeros: P25.8: chunks of zeros where other bytes lay: a mount finds zeros.
func TestZeros(t *testing.T) {
	s := someShape()
	s.Pack = 4
	v := format(t, s)
	mustCommit(t, v, putChunks(2000, 1000))
	v.Checkpoint()
	mustCommit(t, v, func(b *chunk.Book) { b.Decr(1) })
	v.Checkpoint()
	mustCommit(t, v, func(b *chunk.Book) {
		if id, e := b.Put(make([]byte, 1900)); id != 3 || e != api.OK {
			t.Error("Put", id, e)
		}
	})
	if l, _ := v.Book().Containers(); len(l) != 2 || l[1].First != 7 {
		t.Fatal("it does not lie where the other one lay", l)
	}
	v.Sync()
	v.Disk().Crash(nil)
	w := open(t, v.Disk())
	if data, e := w.Book().Get(3); e != api.OK || string(data) != string(make([]byte, 1900)) {
		t.Error("Get", e)
	}
}

// TestOpenAny: R1, P25.6: of any bytes Open tells something, and what it takes goes on.
func TestOpenAny(t *testing.T) {
	r := rand.New(rand.NewSource(256))
	told := map[api.Errno]int{}
	for i := range 3000 {
		v := format(t, someShape())
		mustCommit(t, v, putKeys(0, 10))
		v.Checkpoint()
		if i%3 > 0 {
			mustCommit(t, v, func(b *chunk.Book) {
				b.Put([]byte("abc"))
				for range r.Intn(4) {
					key := make([]byte, 1+r.Intn(17))
					key[0] = "cdikosx"[r.Intn(7)]
					key[len(key)-1] |= byte(r.Intn(3))
					value := make([]byte, []int{0, 8, 12, 13, 48}[r.Intn(5)])
					for j := range value {
						value[j] = byte(r.Intn(2) * r.Intn(60))
					}
					put(b, string(key), string(value))
				}
			})
			v.Sync()
		}
		d := v.Disk()
		if i%3 < 2 {
			for range 1 + r.Intn(3) {
				n := r.Intn(16)
				b, _ := d.Read(n)
				b[r.Intn(r.Intn(512)+1)] ^= 1 << r.Intn(8)
				d.Write(n, b)
			}
		}
		w, e := vol.Open(d)
		if told[e]++; e == api.OK {
			commit(w, func(b *chunk.Book) { put(b, "z", "") })
			w.Sync()
			wantOpen(t, "again", d, api.OK)
		}
	}
	for _, e := range []api.Errno{api.OK, api.ErrVolume, api.ErrTree, api.ErrChunk} {
		if told[e] < 20 {
			t.Error("too seldom", told)
		}
	}
}
