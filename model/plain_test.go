package model_test

import (
	"maps"
	"math/rand"
	"slices"
	"strings"
	"testing"

	"dedup/api"
	"dedup/dir"
	"dedup/handle"
	"dedup/inode"
	"dedup/model"
	"dedup/name"
	"dedup/tree"
)

// plain is a world by the chapter's words: the name space is chapter 21's, in a tree; the descriptors are chapter 24's; a file is a list of bytes. What is changed is first copied, so that a plain one that is copied stays.
type plain struct {
	tree  *tree.Tree
	table *handle.Table
	bytes map[int][]byte
}

// newPlain has a root alone.
func newPlain(t *testing.T) plain {
	t.Helper()
	x, _ := tree.New(4096)
	x, e := name.Format(x)
	if e != api.OK {
		t.Fatal("Format", e)
	}
	return plain{x, handle.New(), map[int][]byte{}}
}

// fork is another one that is the same.
func (p plain) fork() plain {
	return plain{p.tree, p.table.Fork(), maps.Clone(p.bytes)}
}

// do does an operation: the world behind it, and what is told. Of one that is refused the world is thrown away.
func (p plain) do(o api.Op) (plain, api.Result) {
	q := p.fork()
	r := q.step(o)
	if r.Err != api.OK {
		return p, api.Result{Err: r.Err}
	}
	q.sweep()
	return q, r
}

// sweep takes the files away that are gone.
func (p *plain) sweep() {
	for number := range p.bytes {
		if x, _ := inode.Get(p.tree, number); x.Links == 0 && p.table.Count(number) == 0 {
			delete(p.bytes, number)
			p.tree, _ = inode.Remove(p.tree, number)
		}
	}
}

// step is what the chapter's table says.
func (p *plain) step(o api.Op) (r api.Result) {
	switch o.Kind {
	case api.OpOpen:
		return p.open(o)
	case api.OpClose:
		_, _, r.Err = p.table.Close(o.Handle)
	case api.OpRead, api.OpWrite, api.OpTruncate, api.OpFsync:
		h, e := p.table.Get(o.Handle)
		if e != api.OK {
			return api.Result{Err: e}
		}
		return p.byHandle(o, h.Inode)
	case api.OpStat:
		r.Stat, r.Err = name.Stat(p.tree, o.Path)
		r.Stat.Size = len(p.bytes[r.Stat.Number])
	case api.OpList:
		n, e := name.Walk(p.tree, o.Path)
		if e == api.OK && p.bytes[n] != nil {
			e = api.ENotDir
		}
		r.Err = e
		if e == api.OK {
			r.Names, r.Err = dir.Names(p.tree, n)
		}
	case api.OpMkdir:
		p.tree, r.Err = name.Mkdir(p.tree, o.Path)
	case api.OpRmdir:
		p.tree, r.Err = name.Rmdir(p.tree, o.Path)
	case api.OpLink:
		p.tree, r.Err = name.Link(p.tree, o.Path, o.Other)
	case api.OpUnlink:
		p.tree, _, _, r.Err = name.Unlink(p.tree, o.Path)
	case api.OpRename:
		p.tree, _, _, r.Err = name.Rename(p.tree, o.Path, o.Other)
	case api.OpSync, api.OpCheckpoint, api.OpClean, api.OpCompact, api.OpEvict:
	case api.OpRemount:
		p.table.Clear()
	default:
		r.Err = api.EInval
	}
	return r
}

// open is what the table says of OpOpen.
func (p *plain) open(o api.Op) (r api.Result) {
	if o.Flags < 0 || o.Flags > 7 {
		return api.Result{Err: api.EInval}
	}
	if len(p.table.All()) == 64 {
		return api.Result{Err: api.EMFile}
	}
	var n int
	var made bool
	if o.Flags%2 == 1 {
		p.tree, n, made, r.Err = name.Create(p.tree, o.Path, o.Flags/2%2 == 1)
	} else {
		n, r.Err = name.Walk(p.tree, o.Path)
		if r.Err == api.OK && p.bytes[n] == nil {
			r.Err = api.EIsDir
		}
	}
	if r.Err != api.OK {
		return r
	}
	if made || o.Flags >= 4 {
		p.bytes[n] = []byte{} // not nil, which is no file's
	}
	r.Handle, r.Err = p.table.Open(n, o.Flags)
	return r
}

// byHandle is what the table says of reading, writing, truncating, fsync; byte by byte.
func (p *plain) byHandle(o api.Op, n int) api.Result {
	b := p.bytes[n]
	at := func(i int) byte {
		if i < len(b) {
			return b[i]
		}
		return 0
	}
	switch {
	case o.Kind == api.OpFsync:
	case o.Kind == api.OpRead && (o.Offset < 0 || o.N < 0 || o.N > 65536), o.Kind == api.OpWrite && (o.Offset < 0 || len(o.Data) > 65536), o.Kind == api.OpTruncate && o.N < 0:
		return api.Result{Err: api.EInval}
	case o.Kind == api.OpRead:
		var data []byte
		for i := o.Offset; i < len(b) && len(data) < o.N; i++ {
			data = append(data, b[i])
		}
		return api.Result{Data: string(data)}
	case o.Kind == api.OpTruncate && o.N > 1<<20, o.Kind == api.OpWrite && o.Data != "" && uint64(o.Offset)+uint64(len(o.Data)) > 1<<20:
		return api.Result{Err: api.EFBig}
	case o.Kind == api.OpTruncate:
		other := make([]byte, o.N)
		for i := range other {
			other[i] = at(i)
		}
		p.bytes[n] = other
	case o.Data != "":
		other := make([]byte, max(len(b), o.Offset+len(o.Data)))
		for i := range other {
			other[i] = at(i)
			if i >= o.Offset && i < o.Offset+len(o.Data) {
				other[i] = o.Data[i-o.Offset]
			}
		}
		p.bytes[n] = other
		return api.Result{N: len(o.Data)}
	}
	return api.Result{}
}

// items is what Items should tell.
func (p plain) items() []api.Item {
	l := p.below("/", nil)
	slices.SortFunc(l, func(x, y api.Item) int { return strings.Compare(x.Path, y.Path) })
	return l
}

// below is the items of a path and of all below it.
func (p plain) below(text string, parts []string) []api.Item {
	n := 1
	for _, part := range parts { // a path may be longer than Walk takes
		n, _, _ = dir.Get(p.tree, n, part)
	}
	x, _ := inode.Get(p.tree, n)
	b := p.bytes[n]
	l := []api.Item{{Path: text, Stat: api.Stat{Number: n, Dir: x.Dir, Size: len(b), Links: x.Links}, Data: string(b)}}
	for kid := range dir.List(p.tree, n) {
		ahead := text
		if ahead == "/" {
			ahead = ""
		}
		l = append(l, p.below(ahead+"/"+kid, append(slices.Clone(parts), kid))...)
	}
	return l
}

// next is the next number.
func (p plain) next() int {
	n, _, _, _ := inode.Counters(p.tree)
	return n
}

// sameResult tells whether results are the same, field by field.
func sameResult(a, b api.Result) bool {
	names := slices.Equal(a.Names, b.Names)
	a.Names, b.Names = nil, nil
	return names && a.Err == b.Err && a.Handle == b.Handle && a.N == b.N && a.Data == b.Data && a.Stat == b.Stat
}

// wantDo does an operation on a world and on a plain one, and holds what is told and what is there then.
func wantDo(t *testing.T, w *model.World, p plain, o api.Op) (plain, api.Result) {
	t.Helper()
	q, want := p.do(o)
	before, next := w.Items(), w.Next()
	got := w.Do(o)
	if !sameResult(got, want) {
		t.Fatalf("%+v: %+v, want %+v (of %v)", short(o), tell(got), tell(want), paths(before))
	}
	wantWorld(t, w, q)
	if !model.Mutates(o, got) && (!slices.Equal(before, w.Items()) || next != w.Next()) {
		t.Fatalf("%+v: changed %v to %v", short(o), paths(before), paths(w.Items()))
	}
	return q, got
}

// wantWorld holds what is there.
func wantWorld(t *testing.T, w *model.World, p plain) {
	t.Helper()
	if got, want := w.Items(), p.items(); !slices.Equal(got, want) {
		t.Fatalf("Items %v, want %v", paths(got), paths(want))
	}
	if got, want := w.Next(), p.next(); got != want {
		t.Fatal("Next", got, "want", want)
	}
}

// short is an operation without a long text.
func short(o api.Op) api.Op {
	o.Data = o.Data[:min(len(o.Data), 20)]
	return o
}

// tell is a result without a long text.
func tell(r api.Result) api.Result {
	r.Data = r.Data[:min(len(r.Data), 60)]
	return r
}

// paths is items without their bytes.
func paths(l []api.Item) []api.Item {
	l = slices.Clone(l)
	for i := range l {
		l[i].Data = ""
	}
	return l
}

// anyPath is a path, most often one of few and short ones.
func anyPath(r *rand.Rand) string {
	if r.Intn(60) == 0 {
		return []string{"", "a", "a/b", "/a\x00", "/" + strings.Repeat("n", 33), "/a/" + strings.Repeat("n", 33) + "/b", strings.Repeat("/", 513), "/a" + strings.Repeat("/", 510), "/a" + strings.Repeat("/", 511)}[r.Intn(9)]
	}
	text := ""
	for range r.Intn(5) {
		text += strings.Repeat("/", 1+r.Intn(12)/11) + []string{"a", "a", "b", "b", "a!", strings.Repeat("n", 32), ".", ".."}[r.Intn(8)]
	}
	if text == "" || r.Intn(9) == 0 {
		text += "/"
	}
	return text
}

// anyPlace is a place in a file, most often one of its first ones.
func anyPlace(r *rand.Rand) int {
	switch r.Intn(40) {
	case 0:
		return -1 - r.Intn(2)*(1<<40)
	case 1:
		return []int{1<<20 - 3, 1<<20 - 1, 1 << 20, 1<<20 + 1, 1 << 40, 1<<63 - 1}[r.Intn(6)]
	case 2:
		return []int{65535, 65536, 65537}[r.Intn(3)]
	}
	return r.Intn(40)
}

// anyData is what is written, most often a few bytes.
func anyData(r *rand.Rand) string {
	n := r.Intn(12)
	if r.Intn(60) == 0 {
		n = 65534 + r.Intn(4)
	}
	b := make([]byte, n)
	r.Read(b)
	return string(b)
}

// anyOp is an operation of any kind; fields that its kind does not have are filled too.
func anyOp(r *rand.Rand) api.Op {
	kinds := []int{1, 1, 1, 1, 1, 2, 2, 3, 3, 4, 4, 4, 5, 6, 7, 8, 8, 8, 9, 10, 10, 11, 11, 12, 12, 12, 13, 14 + r.Intn(5)}
	o := api.Op{Kind: kinds[r.Intn(len(kinds))], Path: anyPath(r), Other: anyPath(r), Handle: r.Intn(6), Offset: anyPlace(r), N: anyPlace(r), Flags: []int{0, 1, 1, 1, 3, 4, 5, 7, 2, 6}[r.Intn(10)], Data: anyData(r)}
	switch r.Intn(150) {
	case 0:
		o.Kind = []int{0, -1, 20, 21, 1 << 40, -1 << 63, api.OpRemount, api.OpRemount, api.OpRemount}[r.Intn(9)]
	case 1:
		o.Handle = []int{-1, 63, 64, 65, 1 << 40, -1 << 63}[r.Intn(6)]
	case 2:
		o.Flags = []int{-1, 8, 9, 1 << 40, -1 << 63}[r.Intn(5)]
	}
	return o
}

// TestAsPlain: P23.1 to P23.6: whatever is called, all is told and made as by the words; what does not mutate, and what is refused, changes nothing.
func TestAsPlain(t *testing.T) {
	r := rand.New(rand.NewSource(23))
	seen := map[api.Errno]int{}
	kinds := map[int]int{}
	for range 250 {
		w, p := model.New(), newPlain(t)
		for range 300 {
			o := anyOp(r)
			var got api.Result
			p, got = wantDo(t, w, p, o)
			seen[got.Err]++
			if got.Err == api.OK {
				kinds[o.Kind]++
			}
		}
	}
	for _, e := range []api.Errno{api.OK, api.EPerm, api.ENoEnt, api.EExist, api.ENotDir, api.EIsDir, api.ENotEmpty, api.EInval, api.EBadF, api.EFBig, api.ENameTooLong, api.EBusy} {
		if seen[e] < 5 {
			t.Error("too seldom", e, seen[e])
		}
	}
	for kind := api.OpOpen; kind <= api.OpRemount; kind++ {
		if kinds[kind] < 5 {
			t.Error("too seldom done", kind, kinds[kind])
		}
	}
}

// TestForksAsPlain: P23.2, P23.8: forks go on as if they were alone; Restart is a remount of a fork, and changes nothing of the world.
func TestForksAsPlain(t *testing.T) {
	r := rand.New(rand.NewSource(232))
	type pair struct {
		w *model.World
		p plain
	}
	for range 60 {
		l := []pair{{model.New(), newPlain(t)}}
		for range 400 {
			x := &l[r.Intn(len(l))]
			x.p, _ = wantDo(t, x.w, x.p, anyOp(r))
			switch other := r.Intn(len(l) + 1); r.Intn(30) {
			case 0:
				l = slices.Insert(l, other, pair{x.w.Fork(), x.p.fork()})
			case 1:
				q, _ := x.p.do(api.Op{Kind: api.OpRemount})
				l = slices.Insert(l, other, pair{x.w.Restart(), q})
			}
			if len(l) > 5 {
				l = slices.Delete(l, 0, 1)
			}
		}
		for _, x := range l {
			wantWorld(t, x.w, x.p)
		}
	}
}

// somePaths leads to all that some worlds have, and to nothing, in many ways.
func somePaths() []string {
	return []string{
		"/", "//", "/.", "/..", "/./", "/a", "/a/", "/a/.", "/a/..", "/a/b", "/a/b/.", "/a/b/..", "/a/b/c", "/a/b/c/", "/a/b/../e", "/a/e", "/a/x", "/a/b/x",
		"/a/b/c/x", "/d", "/d/.", "/d/x", "/d/../a", "/d/../../d", "/d/../d/y", "/e", "/e/x", "/f", "/f/", "/f/.", "/f/..", "/f/x", "/g", "/h", "/x", "/x/", "/x/.", "/x/..", "/x/y",
		"/a/f", "/a/h", "/a/./b/./c/../../h", "", "a", "/a\x00", "/" + strings.Repeat("n", 33), "/x/" + strings.Repeat("n", 33), "/f/" + strings.Repeat("n", 32), strings.Repeat("/", 512), strings.Repeat("/", 513),
	}
}

// TestAllPaths: P23.1, P23.4, P23.5: each call of all pairs of these paths, in a world of directories, empty ones, files, links, open ones.
func TestAllPaths(t *testing.T) {
	w, p := model.New(), newPlain(t)
	for _, o := range []api.Op{
		{Kind: api.OpMkdir, Path: "/a"}, {Kind: api.OpMkdir, Path: "/a/b"}, {Kind: api.OpMkdir, Path: "/a/b/c"}, {Kind: api.OpMkdir, Path: "/a/e"}, {Kind: api.OpMkdir, Path: "/d"}, {Kind: api.OpMkdir, Path: "/e"},
		{Kind: api.OpOpen, Path: "/f", Flags: 1}, {Kind: api.OpOpen, Path: "/h", Flags: 1}, {Kind: api.OpLink, Path: "/f", Other: "/g"}, {Kind: api.OpLink, Path: "/f", Other: "/a/f"},
		{Kind: api.OpOpen, Path: "/a/h", Flags: 1}, {Kind: api.OpWrite, Handle: 0, Data: "f"}, {Kind: api.OpWrite, Handle: 1, Data: "hh"}, {Kind: api.OpWrite, Handle: 2, Data: "ah"}, {Kind: api.OpClose, Handle: 2},
	} {
		var got api.Result
		if p, got = wantDo(t, w, p, o); got.Err != api.OK {
			t.Fatal(o, got)
		}
	}
	for _, text := range somePaths() {
		for flags := -1; flags <= 8; flags++ {
			wantDo(t, w.Fork(), p, api.Op{Kind: api.OpOpen, Path: text, Flags: flags})
		}
		for _, kind := range []int{api.OpStat, api.OpList, api.OpMkdir, api.OpRmdir, api.OpUnlink} {
			wantDo(t, w.Fork(), p, api.Op{Kind: kind, Path: text})
		}
		for _, other := range somePaths() {
			for _, kind := range []int{api.OpLink, api.OpRename} {
				u := w.Fork()
				q, _ := wantDo(t, u, p, api.Op{Kind: kind, Path: text, Other: other})
				for h := range 3 { // what is open goes on
					q, _ = wantDo(t, u, q, api.Op{Kind: api.OpRead, Handle: h, N: 9})
				}
				wantTree(t, u.Items())
			}
		}
	}
	wantWorld(t, w, p)
}
