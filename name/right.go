package name

import (
	"dedup/api"
	"dedup/dir"
	"dedup/inode"
	"dedup/tree"
)

// survey is all that a tree has of names and inodes.
type survey struct {
	tree    *tree.Tree
	inodes  map[int]api.Inode
	named   map[int]int      // how many entries name each inode
	entries int              // how many there are in all
	kids    map[int][]int    // the directories that have each one as their Parent, but for the root
	marks   map[int]struct{} // of orphans
}

// Right tells whether all names and inodes are as they should be.
func Right(t *tree.Tree) api.Errno {
	if t == nil {
		return api.ErrClosed
	}
	if _, e := inode.Get(t, root); e == api.ErrNone {
		return api.ENoEnt
	}
	if e := inode.Right(t); e != api.OK {
		return e
	}
	s, e := surveyOf(t)
	if e != api.OK {
		return e
	}
	if !s.entriesRight() || !s.rootRight() || !s.allBelowRoot() || !s.inodesRight() {
		return api.EInval
	}
	return api.OK
}

// surveyOf is the survey of a tree whose inodes are right.
func surveyOf(t *tree.Tree) (*survey, api.Errno) {
	refs, e := dir.Refs(t)
	if e != api.OK {
		return nil, e
	}
	orphans, e := inode.Orphans(t)
	if e != api.OK {
		return nil, e
	}
	s := &survey{tree: t, inodes: map[int]api.Inode{}, named: map[int]int{}, kids: map[int][]int{}, marks: map[int]struct{}{}}
	for _, r := range refs {
		s.named[r.Chunk] = r.Count
		s.entries += r.Count
	}
	for _, number := range orphans {
		s.marks[number] = struct{}{}
	}
	for x := range inode.All(t) {
		s.inodes[x.Number] = x
		if x.Dir && x.Number != root {
			s.kids[x.Parent] = append(s.kids[x.Parent], x.Number)
		}
	}
	return s, api.OK
}

// entriesRight tells whether all entries are of directories that are there, and name what is there. Those of others are as many as the ones that are not met.
func (s *survey) entriesRight() bool {
	met := 0
	for _, in := range s.inodes {
		if !in.Dir {
			continue
		}
		for name := range dir.List(s.tree, in.Number) {
			if !s.entryRight(in.Number, name) {
				return false
			}
			met++
		}
	}
	return met == s.entries
}

// entryRight tells whether an entry names what is there, of its kind; and a directory in its Parent alone.
func (s *survey) entryRight(in int, name string) bool {
	number, isDir, e := dir.Get(s.tree, in, name)
	x, there := s.inodes[number]
	return e == api.OK && there && x.Dir == isDir && (!x.Dir || x.Parent == in)
}

// rootRight tells whether the root is as it should be, but for its links.
func (s *survey) rootRight() bool {
	x := s.inodes[root]
	return x.Dir && x.Parent == root && s.named[root] == 0
}

// allBelowRoot tells whether the root is above all directories.
func (s *survey) allBelowRoot() bool {
	below := []int{root}
	for i := 0; i < len(below); i++ {
		below = append(below, s.kids[below[i]]...) // each is one's kid alone: none is met twice
	}
	dirs := 0
	for _, x := range s.inodes {
		if x.Dir {
			dirs++
		}
	}
	return len(below) == dirs
}

// inodesRight tells whether all inodes have as many names, links and marks as they should.
func (s *survey) inodesRight() bool {
	for number, x := range s.inodes {
		_, marked := s.marks[number]
		if x.Dir && !s.dirRight(x, marked) || !x.Dir && !s.fileRight(x, marked) {
			return false
		}
	}
	return true
}

// dirRight is of a directory.
func (s *survey) dirRight(x api.Inode, marked bool) bool {
	once := x.Number == root || s.named[x.Number] == 1
	return once && x.Links == dirLinks+len(s.kids[x.Number]) && !marked
}

// fileRight is of a file.
func (s *survey) fileRight(x api.Inode, marked bool) bool {
	return x.Links == s.named[x.Number] && marked == (x.Links == 0)
}
