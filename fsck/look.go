package fsck

import (
	"iter"
	"strings"

	"dedup/api"
	"dedup/disk"
	"dedup/layout"
	"dedup/tree"
)

// prefixes is the letters with which keys begin.
const prefixes = "cdikosx"

// look is what was found so far: each part leans on those ahead of it.
type look struct {
	disk   *disk.Disk // nil, if the image is none
	base   api.Super
	laid   *tree.Tree // the superblock's
	redone *tree.Tree // with what the journal has
	found  api.Verdict
}

// over goes over the parts, up to the first one that is not right.
func (l *look) over() iter.Seq2[int, api.Errno] {
	return func(yield func(int, api.Errno) bool) {
		for i, p := range parts() {
			e := p.look(l)
			if !yield(api.PartSuper+i, e) || e != api.OK {
				return
			}
		}
	}
}

// image is the bytes of an area's sectors; nothing, where one of them is not there.
func (l *look) image(a api.Area) []byte {
	var image []byte
	for i := range a.Count {
		b, e := l.disk.Read(a.First + i)
		if e != api.OK {
			return nil
		}
		image = append(image, b...)
	}
	return image
}

// one is a sector as an area.
func one(sector int) api.Area {
	return api.Area{First: sector, Count: 1}
}

// super looks for the superblock that counts.
func (l *look) super() api.Errno {
	if l.disk == nil {
		return api.ErrArg
	}
	base, _, e := layout.Choose(l.disk.Size(), l.image(one(0)), l.image(one(1)))
	if e != api.OK {
		return e
	}
	if base.Shape.Sectors != l.disk.Count() || base.Root == 0 {
		return api.ErrVolume
	}
	l.base = base
	_, _, e = layout.Next(base)
	return e
}

// tree looks at the superblock's tree.
func (l *look) tree() api.Errno {
	t, e := tree.Open(l.base.Shape.Sector, l.base.Root, l.disk)
	if e != api.OK {
		return e
	}
	l.laid = t
	return t.Check()
}

// keys looks at how keys begin.
func (l *look) keys() api.Errno {
	for key := range l.redone.Scan("", "") {
		if strings.IndexByte(prefixes, key[0]) < 0 {
			return api.ErrVolume
		}
	}
	return api.OK
}
