package name_test

import (
	"encoding/binary"
	"maps"
	"math/rand"
	"slices"
	"testing"

	"dedup/api"
	"dedup/name"
)

// some is a right tree: /a (2), /b (3), /a/c (4), /f and /a/f (5), a file with a mark (6), /b/g (7), and keys of other layers.
func some() map[string]string {
	return map[string]string{
		"s":            numbers(9, 1, 1),
		keyOf('i', 1):  inodeText(2, 0, 4, 1),
		keyOf('i', 2):  inodeText(2, 0, 3, 1),
		keyOf('i', 3):  inodeText(2, 0, 2, 1),
		keyOf('i', 4):  inodeText(2, 0, 2, 2),
		keyOf('i', 5):  inodeText(1, 9, 2, 0),
		keyOf('i', 6):  inodeText(1, 9, 0, 0),
		keyOf('i', 7):  inodeText(1, 9, 1, 0),
		keyOf('o', 6):  "",
		entry(1, "a"):  entryText(2, 2),
		entry(1, "b"):  entryText(3, 2),
		entry(2, "c"):  entryText(4, 2),
		entry(1, "f"):  entryText(5, 1),
		entry(2, "f"):  entryText(5, 1),
		entry(3, "g"):  entryText(7, 1),
		"c\xFF":        "",
		"e":            "",
		keyOf('x', 99): "",
	}
}

// entry is the key of an entry.
func entry(in int, name string) string {
	return keyOf('d', in) + name
}

// absent stands for a key that is not there.
const absent = "absent"

// with is some with other keys.
func with(l map[string]string) map[string]string {
	all := some()
	maps.Copy(all, l)
	maps.DeleteFunc(all, func(_, value string) bool { return value == absent })
	return all
}

// faults is what can be wrong with some, and what Right tells of it.
func faults() map[string]struct {
	l    map[string]string
	want api.Errno
} {
	type m = map[string]string
	file, dir := inodeText(1, 0, 1, 0), inodeText(2, 0, 2, 1)
	return map[string]struct {
		l    m
		want api.Errno
	}{
		"nothing":                              {nil, api.OK},
		"a file more":                          {m{keyOf('i', 8): file, entry(4, "n"): entryText(8, 1)}, api.OK},
		"a directory more":                     {m{keyOf('i', 8): dir, entry(1, "n"): entryText(8, 2), keyOf('i', 1): inodeText(2, 0, 5, 1)}, api.OK},
		"an orphan more":                       {m{keyOf('i', 8): inodeText(1, 0, 0, 0), keyOf('o', 8): ""}, api.OK},
		"no orphan":                            {m{keyOf('i', 6): absent, keyOf('o', 6): absent}, api.OK},
		"no root":                              {m{keyOf('i', 1): absent}, api.ENoEnt},
		"no root, and more":                    {m{keyOf('i', 1): absent, "s": "", "d": ""}, api.ENoEnt},
		"no root's value":                      {m{keyOf('i', 1): ""}, api.ErrInode},
		"no inode's value":                     {m{keyOf('i', 5): "?"}, api.ErrInode},
		"no counters":                          {m{"s": absent}, api.ErrInode},
		"an inode that was not given":          {m{"s": numbers(7, 1, 1)}, api.ErrInode},
		"a mark of none":                       {m{keyOf('o', 8): ""}, api.ErrInode},
		"no inode's and no entry's":            {m{keyOf('i', 5): "?", entry(1, "f"): "?"}, api.ErrInode},
		"no entry's value":                     {m{entry(1, "f"): "?"}, api.ErrDir},
		"no entry's value, another one amiss":  {m{entry(1, "f"): "?", entry(1, "z"): entryText(8, 1)}, api.ErrDir},
		"no entry's key":                       {m{"d": entryText(5, 1)}, api.ErrDir},
		"a name that may not be":               {m{entry(1, ".."): entryText(1, 2)}, api.ErrDir},
		"an entry of a directory not there":    {m{entry(8, "n"): entryText(5, 1), keyOf('i', 5): inodeText(1, 9, 3, 0)}, api.EInval},
		"the only one of it":                   {m{keyOf('i', 8): file, entry(9, "n"): entryText(8, 1)}, api.EInval},
		"an entry of a file":                   {m{entry(5, "n"): entryText(7, 1), keyOf('i', 7): inodeText(1, 9, 2, 0)}, api.EInval},
		"an entry of an orphan":                {m{entry(6, "n"): entryText(7, 1), keyOf('i', 7): inodeText(1, 9, 2, 0)}, api.EInval},
		"an entry of an inode not there":       {m{entry(1, "n"): entryText(8, 1)}, api.EInval},
		"of a directory not there":             {m{entry(1, "n"): entryText(8, 2)}, api.EInval},
		"a file as a directory":                {m{entry(3, "g"): entryText(7, 2)}, api.EInval},
		"a directory as a file":                {m{entry(2, "c"): entryText(4, 1)}, api.EInval},
		"one of two names as a directory":      {m{entry(1, "f"): entryText(5, 2)}, api.EInval},
		"the root a file":                      {m{keyOf('i', 1): inodeText(1, 0, 0, 0), keyOf('o', 1): ""}, api.EInval},
		"the root's other parent":              {m{keyOf('i', 1): inodeText(2, 0, 4, 2)}, api.EInval},
		"the root's parent, counted":           {m{keyOf('i', 1): inodeText(2, 0, 4, 2), keyOf('i', 2): inodeText(2, 0, 4, 1)}, api.EInval},
		"the root counted as its kid":          {m{keyOf('i', 1): inodeText(2, 0, 5, 1)}, api.EInval},
		"the root named":                       {m{entry(4, "r"): entryText(1, 2)}, api.EInval},
		"the root named in itself":             {m{entry(1, "r"): entryText(1, 2)}, api.EInval},
		"a directory without a name":           {m{entry(2, "c"): absent}, api.EInval},
		"without a name, with a mark":          {m{entry(2, "c"): absent, keyOf('o', 4): ""}, api.EInval},
		"a directory with two names":           {m{entry(2, "d"): entryText(4, 2)}, api.EInval},
		"with two names, counted":              {m{entry(2, "d"): entryText(4, 2), keyOf('i', 2): inodeText(2, 0, 4, 1)}, api.EInval},
		"with two names in two places":         {m{entry(3, "c"): entryText(4, 2)}, api.EInval},
		"a name elsewhere than its Parent":     {m{entry(2, "c"): absent, entry(3, "c"): entryText(4, 2)}, api.EInval},
		"its Parent elsewhere":                 {m{keyOf('i', 4): inodeText(2, 0, 2, 3), keyOf('i', 2): inodeText(2, 0, 2, 1), keyOf('i', 3): inodeText(2, 0, 3, 1)}, api.EInval},
		"a Parent that is not there":           {m{keyOf('i', 4): inodeText(2, 0, 2, 8), keyOf('i', 2): inodeText(2, 0, 2, 1)}, api.EInval},
		"not there, named there":               {m{keyOf('i', 4): inodeText(2, 0, 2, 8), keyOf('i', 2): inodeText(2, 0, 2, 1), entry(2, "c"): absent, entry(8, "c"): entryText(4, 2)}, api.EInval},
		"a Parent that is a file":              {m{keyOf('i', 4): inodeText(2, 0, 2, 5), keyOf('i', 2): inodeText(2, 0, 2, 1), entry(2, "c"): absent, entry(5, "c"): entryText(4, 2)}, api.EInval},
		"a ring of one":                        {m{keyOf('i', 8): inodeText(2, 0, 3, 8), entry(8, "n"): entryText(8, 2)}, api.EInval},
		"a ring of two":                        {m{keyOf('i', 8): inodeText(2, 0, 3, 9), keyOf('i', 9): inodeText(2, 0, 3, 8), entry(8, "n"): entryText(9, 2), entry(9, "n"): entryText(8, 2), "s": numbers(10, 1, 1)}, api.EInval},
		"one below a ring":                     {m{keyOf('i', 8): inodeText(2, 0, 4, 8), entry(8, "n"): entryText(8, 2), keyOf('i', 9): inodeText(2, 0, 2, 8), entry(8, "m"): entryText(9, 2), "s": numbers(10, 1, 1)}, api.EInval},
		"a file's links too few":               {m{keyOf('i', 5): inodeText(1, 9, 1, 0)}, api.EInval},
		"a file's links too many":              {m{keyOf('i', 7): inodeText(1, 9, 2, 0)}, api.EInval},
		"a name fewer":                         {m{entry(2, "f"): absent}, api.EInval},
		"a name more":                          {m{entry(3, "f"): entryText(5, 1)}, api.EInval},
		"a directory's links too few":          {m{keyOf('i', 2): inodeText(2, 0, 2, 1)}, api.EInval},
		"a directory's links too many":         {m{keyOf('i', 2): inodeText(2, 0, 4, 1)}, api.EInval},
		"an empty one's links too few":         {m{keyOf('i', 4): inodeText(2, 0, 1, 2)}, api.EInval},
		"the root's links too few":             {m{keyOf('i', 1): inodeText(2, 0, 3, 1)}, api.EInval},
		"files counted as directories":         {m{keyOf('i', 3): inodeText(2, 0, 3, 1)}, api.EInval},
		"a marked file with a link":            {m{keyOf('o', 7): ""}, api.EInval},
		"a marked directory":                   {m{keyOf('o', 4): ""}, api.EInval},
		"the root marked":                      {m{keyOf('o', 1): ""}, api.EInval},
		"no mark":                              {m{keyOf('o', 6): absent}, api.EInval},
		"a marked file that has a name":        {m{entry(1, "n"): entryText(6, 1)}, api.EInval},
		"named, counted and marked":            {m{entry(1, "n"): entryText(6, 1), keyOf('i', 6): inodeText(1, 9, 1, 0)}, api.EInval},
		"named, counted, without a mark":       {m{entry(1, "n"): entryText(6, 1), keyOf('i', 6): inodeText(1, 9, 1, 0), keyOf('o', 6): absent}, api.OK},
		"a file without names, links or marks": {m{keyOf('i', 8): inodeText(1, 0, 0, 0)}, api.EInval},
		"a file that says it has a link":       {m{keyOf('i', 8): file}, api.EInval},
	}
}

// TestRight: P21.6: each fault alone, and what is none.
func TestRight(t *testing.T) {
	for what, c := range faults() {
		wantAs(t, what, treeOf(t, with(c.l)), c.want)
	}
	wantAs(t, "an empty tree", treeOf(t, nil), api.ENoEnt)
	wantAs(t, "a tree without names", treeOf(t, map[string]string{"x": ""}), api.ENoEnt)
	wantAs(t, "a root alone", treeOf(t, map[string]string{"s": numbers(2, 1, 1), keyOf('i', 1): inodeText(2, 0, 2, 1)}), api.OK)
}

// read is the inodes, names and marks of a tree whose keys are all right.
type read struct {
	inodes map[int]api.Inode
	names  []named
	marks  map[int]bool
}

// named is an entry.
type named struct {
	in, number int
	isDir      bool
}

// readOf takes keys and values apart.
func readOf(l map[string]string) read {
	r := read{inodes: map[int]api.Inode{}, marks: map[int]bool{}}
	for key, value := range l {
		number := 0
		if len(key) >= 9 {
			number = int(binary.BigEndian.Uint64([]byte(key[1:9])))
		}
		switch key[0] {
		case 'i':
			u := func(at int) int { return int(binary.BigEndian.Uint32([]byte(value[at:]))) }
			r.inodes[number] = api.Inode{Number: number, Dir: value[0] == 2, Size: u(1), Links: u(5), Parent: u(9)}
		case 'd':
			r.names = append(r.names, named{number, int(binary.BigEndian.Uint32([]byte(value))), value[4] == 2})
		case 'o':
			r.marks[number] = true
		}
	}
	return r
}

// namesOf is how many entries name a number.
func (r read) namesOf(number int) int {
	n := 0
	for _, x := range r.names {
		if x.number == number {
			n++
		}
	}
	return n
}

// below tells whether a directory lies below the root, parent by parent.
func (r read) below(number int) bool {
	for range len(r.inodes) {
		if number == 1 {
			return true
		}
		number = r.inodes[number].Parent
	}
	return number == 1
}

// right tells by the words, one behind the other, whether names and inodes are right.
func (r read) right() bool {
	for _, x := range r.names {
		to, there := r.inodes[x.number]
		if !r.inodes[x.in].Dir || !there || to.Dir != x.isDir || x.number == 1 {
			return false
		}
		if to.Dir && to.Parent != x.in {
			return false
		}
	}
	if root := r.inodes[1]; !root.Dir || root.Parent != 1 {
		return false
	}
	for number, x := range r.inodes {
		links := r.namesOf(number)
		if x.Dir {
			if number != 1 && (links != 1 || !r.below(number)) {
				return false
			}
			links = 2
			for _, kid := range r.inodes {
				if kid.Dir && kid.Number != 1 && kid.Parent == number {
					links++
				}
			}
		}
		if x.Links != links || r.marks[number] != (x.Links == 0) || r.marks[number] && x.Dir {
			return false
		}
	}
	return true
}

// TestRightAsPlain: P21.6: of trees with some keys otherwise Right tells what the words say of them.
func TestRightAsPlain(t *testing.T) {
	r := rand.New(rand.NewSource(216))
	seen := map[api.Errno]int{}
	var kept []map[string]string
	for range 12000 {
		l := some()
		if len(kept) > 0 && r.Intn(2) == 0 {
			l = maps.Clone(kept[r.Intn(len(kept))])
		}
		for range 1 + r.Intn(4) {
			disturb(r, l)
		}
		want := api.OK
		for number := range readOf(l).marks {
			if _, there := readOf(l).inodes[number]; !there {
				want = api.ErrInode
			}
		}
		if _, there := l[keyOf('i', 1)]; !there {
			want = api.ENoEnt
		} else if want == api.OK && !readOf(l).right() {
			want = api.EInval
		}
		if e := name.Right(treeOf(t, l)); e != want {
			t.Fatalf("%q: Right %d, want %d", l, e, want)
		}
		if seen[want]++; want == api.OK && len(kept) < 200 {
			kept = append(kept, l)
		}
	}
	for _, e := range []api.Errno{api.OK, api.ENoEnt, api.ErrInode, api.EInval} {
		if seen[e] < 100 {
			t.Error("too seldom", e, seen[e])
		}
	}
}

// disturb changes a key of a tree, and often what goes with it.
func disturb(r *rand.Rand, l map[string]string) {
	number, in := 1+r.Intn(8), 1+r.Intn(8)
	text := string([]byte{"abcfgn"[r.Intn(6)]})
	links := func(n, by int) {
		if value, there := l[keyOf('i', n)]; there {
			b := []byte(value)
			b[8] = byte(max(0, int(b[8])+by))
			l[keyOf('i', n)] = string(b)
		}
	}
	switch r.Intn(9) {
	case 0:
		delete(l, slices.Sorted(maps.Keys(l))[r.Intn(len(l))])
		l["s"] = numbers(9, 1, 1)
	case 1:
		links(number, r.Intn(3)-1)
	case 2:
		l[keyOf('o', number)] = ""
	case 3, 4:
		l[entry(in, text)] = entryText(number, 1+r.Intn(2))
		links(number, 1)
	case 5:
		if value, there := l[entry(in, text)]; there {
			delete(l, entry(in, text))
			links(int(value[3]), -1)
		}
	case 6:
		l[keyOf('i', number)] = inodeText(2, 0, 2+r.Intn(2), in)
		l[entry(in, text)] = entryText(number, 2)
		links(in, 1)
	case 7:
		l[keyOf('i', number)] = inodeText(1, r.Intn(9), r.Intn(3), 0)
	case 8:
		l[keyOf('i', number)] = inodeText(1, 0, 0, 0)
		l[keyOf('o', number)] = ""
	}
}
