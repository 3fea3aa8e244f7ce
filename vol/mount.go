package vol

import (
	"dedup/api"
	"dedup/chunk"
	"dedup/codec"
	"dedup/disk"
	"dedup/file"
	"dedup/inode"
	"dedup/journal"
	"dedup/layout"
	"dedup/space"
	"dedup/tree"
)

// The keys of containers' records are from the one on and below the other.
const (
	fromContainers = "k"
	toContainers   = "l"
)

// Open is a volume as it lies on a disk.
func Open(d *disk.Disk) (*Vol, api.Errno) {
	if d == nil {
		return nil, api.ErrArg
	}
	v, e := on(d)
	if e != api.OK {
		return nil, e
	}
	if e := v.findSuper(); e != api.OK {
		return nil, e
	}
	book, e := v.redoneBook()
	if e != api.OK {
		return nil, e
	}
	v.book = withoutOrphans(book)
	if e := v.checkpoint(v.book.Take()); e != api.OK {
		return nil, e
	}
	return v, api.OK
}

// imageOf is the sectors of an area as a source has them, one behind the other; none, if one is refused.
func imageOf(r tree.Reader, a api.Area) []byte {
	var image []byte
	for i := range a.Count {
		b, e := r.Read(a.First + i)
		if e != api.OK {
			return nil
		}
		image = append(image, b...)
	}
	return image
}

// findSuper lets the superblock that counts be the volume's.
func (v *Vol) findSuper() api.Errno {
	r := source{v.cache}
	super, _, e := layout.Choose(v.disk.Size(), imageOf(r, one(0)), imageOf(r, one(1)))
	if e != api.OK || super.Shape.Sectors != v.disk.Count() || super.Root == 0 {
		return api.ErrVolume
	}
	v.super = super
	return api.OK
}

// redoneBook is a book on the superblock's tree with what the journal has.
func (v *Vol) redoneBook() (*chunk.Book, api.Errno) {
	s, r := v.super.Shape, source{v.cache}
	t, e := tree.Open(s.Sector, v.super.Root, r)
	if e != api.OK {
		return nil, e
	}
	if v.nodes, e = nodesOf(t); e != api.OK {
		return nil, e
	}
	records, e := journal.Scan(s.Sector, v.super.Generation, imageOf(r, layout.Journal(s)))
	if e != api.OK {
		return nil, e
	}
	redone := redo(t, records)
	sp, e := v.foundSpace(containersOf(t), containersOf(redone))
	if e != api.OK {
		return nil, e
	}
	return chunk.New(s, redone, sp, r)
}

// redo is a tree with the changes of records, up to the first one that is none or is refused.
func redo(t *tree.Tree, records []string) *tree.Tree {
	for _, rec := range records {
		l, e := Entries(rec)
		if e != api.OK {
			break
		}
		with, e := Apply(t, l)
		if e != api.OK {
			break
		}
		t = with
	}
	return t
}

// container is a container's number, and where it begins.
type container struct {
	id, first int
}

// containersOf is the containers that a tree's records name; what is no record is passed over.
func containersOf(t *tree.Tree) map[container]struct{} {
	l := map[container]struct{}{}
	for key, value := range t.Scan(fromContainers, toContainers) {
		if c, ok := asContainer(key, value); ok {
			l[c] = struct{}{}
		}
	}
	return l
}

// asContainer is the container of which a key and a value are the record, and whether they are one.
func asContainer(key, value string) (container, bool) {
	_, numbers, name, e := codec.Split(key, 1)
	if e != api.OK || name != "" || numbers[0] < 1 || numbers[0] > api.MaxNumber {
		return container{}, false
	}
	r := codec.NewReader(value)
	c := container{id: int(numbers[0]), first: int(r.U32())}
	slots, live := r.U32(), r.U32()
	return c, r.Done() == api.OK && live <= slots
}

// foundSpace is the space behind the superblock's tree, whose containers were these, and the redone one. What the one names and the other does not may be wanted again till the next superblock is written: it waits.
func (v *Vol) foundSpace(was, now map[container]struct{}) (*space.Space, api.Errno) {
	sp, e := allFree(v.super.Shape)
	if e != api.OK {
		return nil, e
	}
	for sector := range v.nodes {
		if sp.Mark(one(sector)) != api.OK {
			return nil, api.ErrVolume
		}
	}
	for c := range now {
		if sp.Mark(v.area(c)) != api.OK {
			return nil, api.ErrVolume
		}
	}
	for c := range was {
		if _, still := now[c]; still {
			continue
		}
		if sp.Mark(v.area(c)) != api.OK || sp.Later(v.area(c)) != api.OK {
			return nil, api.ErrVolume
		}
	}
	return sp, api.OK
}

// area is a container's sectors.
func (v *Vol) area(c container) api.Area {
	return api.Area{First: c.first, Count: v.super.Shape.Pack}
}

// withoutOrphans is a book whose orphans are freed; the book itself, if that is refused or does not fit.
func withoutOrphans(b *chunk.Book) *chunk.Book {
	l, e := inode.Orphans(b.Tree())
	if e != api.OK {
		return b
	}
	freed := b.Fork()
	for _, number := range l {
		if freeOrphan(freed, number) != api.OK {
			return b
		}
	}
	if !fits(freed.Tree(), freed.Space()) {
		return b
	}
	return freed
}

// freeOrphan lets an orphan's content, its inode and its mark go.
func freeOrphan(b *chunk.Book, number int) api.Errno {
	if e := file.Free(b, number); e != api.OK {
		return e
	}
	t, e := inode.Remove(b.Tree(), number)
	if e != api.OK {
		return e
	}
	if t, e = inode.Adopt(t, number); e != api.OK {
		return e
	}
	return b.Set(t)
}
