package fsck

import (
	"dedup/api"
	"dedup/codec"
	"dedup/dir"
	"dedup/extent"
	"dedup/inode"
	"dedup/name"
)

// The keys of extents are from the one on and below the other.
const (
	fromExtents = "x"
	toExtents   = "y"
)

// inodes looks at the inodes' records.
func (l *look) inodes() api.Errno {
	if e := inode.Right(l.redone); e != api.OK {
		return e
	}
	for range inode.All(l.redone) {
		l.found.Inodes++
	}
	orphans, e := inode.Orphans(l.redone)
	l.found.Orphans = len(orphans)
	return e
}

// names looks at the directories' entries.
func (l *look) names() api.Errno {
	if e := name.Right(l.redone); e != api.OK {
		return e
	}
	refs, e := dir.Refs(l.redone)
	for _, r := range refs {
		l.found.Entries += r.Count
	}
	return e
}

// extents looks at the files' extents.
func (l *look) extents() api.Errno {
	if e := extent.Right(l.redone); e != api.OK {
		return e
	}
	files := map[int]struct{}{}
	for x := range inode.All(l.redone) {
		if !x.Dir {
			files[x.Number] = struct{}{}
		}
	}
	for key := range l.redone.Scan(fromExtents, toExtents) {
		_, numbers, _, e := codec.Split(key, 2)
		if e != api.OK {
			return api.ErrExtent
		}
		if _, is := files[int(numbers[0])]; !is {
			return api.ErrExtent
		}
		l.found.Extents++
	}
	return api.OK
}
