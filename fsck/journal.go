package fsck

import (
	"slices"

	"dedup/api"
	"dedup/codec"
	"dedup/journal"
	"dedup/layout"
	"dedup/tree"
	"dedup/vol"
)

// journal looks at the journal's sectors, and redoes what their records say.
func (l *look) journal() api.Errno {
	s := l.base.Shape
	image := l.image(layout.Journal(s))
	place := 0
	for sector := range slices.Chunk(image, s.Sector) {
		if generation := generationOf(sector); generation > l.base.Generation && rightAs(sector, generation, place) {
			return api.ErrVolume
		}
		place++
	}
	records, e := journal.Scan(s.Sector, l.base.Generation, image)
	if e != api.OK {
		return e
	}
	t, e := redo(l.laid, records)
	if e != api.OK {
		return e
	}
	l.redone = t
	l.found.Records = len(records)
	if len(records) == 0 {
		return api.OK
	}
	return t.Check()
}

// generationOf is of which generation a journal's sector says that it is; 0, if it does not begin as one.
func generationOf(sector []byte) uint64 {
	const mark = "DJRN"
	r := codec.NewReader(string(sector))
	if r.Raw(len(mark)) != mark {
		return 0
	}
	return r.U64()
}

// rightAs tells whether a sector is right as a place of a generation: whether the journal's layer takes it behind as many right ones as come ahead of that place.
func rightAs(sector []byte, generation uint64, place int) bool {
	w, e := journal.New(len(sector), place+1, generation)
	if e != api.OK {
		return false
	}
	var image []byte
	for range place {
		w.Append("")
		for _, ahead := range w.Take() {
			image = append(image, ahead.Bytes...)
		}
	}
	n, e := journal.Sectors(len(sector), generation, append(image, sector...))
	return e == api.OK && n > place
}

// redo is a tree with the changes of records.
func redo(t *tree.Tree, records []string) (*tree.Tree, api.Errno) {
	for _, rec := range records {
		l, e := vol.Entries(rec)
		if e != api.OK {
			return nil, e
		}
		if t, e = vol.Apply(t, l); e != api.OK {
			return nil, e
		}
	}
	return t, api.OK
}
