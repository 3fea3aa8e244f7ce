package name_test

import (
	"encoding/binary"
	"maps"
	"math/rand"
	"slices"
	"strings"
	"testing"

	"dedup/api"
	"dedup/inode"
	"dedup/name"
	"dedup/path"
	"dedup/tree"
)

// plain is a name space by the chapter's words: the names of each directory (nil of a file), and the next number. Links and parents are counted and looked for each time.
type plain struct {
	things map[int]map[string]int
	next   int
	marks  []int
}

// newPlain has a root alone.
func newPlain() *plain {
	return &plain{things: map[int]map[string]int{1: {}}, next: 2}
}

// fork is another one that is the same.
func (p *plain) fork() *plain {
	q := &plain{things: map[int]map[string]int{}, next: p.next, marks: slices.Clone(p.marks)}
	for number, names := range p.things {
		q.things[number] = maps.Clone(names)
	}
	return q
}

// isDir tells whether a number is a directory's.
func (p *plain) isDir(number int) bool {
	return p.things[number] != nil
}

// links is how many links a number has by the words.
func (p *plain) links(number int) int {
	n := 0
	if p.isDir(number) {
		for _, kid := range p.things[number] {
			if p.isDir(kid) {
				n++
			}
		}
		return 2 + n
	}
	for _, names := range p.things {
		for _, kid := range names {
			if kid == number {
				n++
			}
		}
	}
	return n
}

// parent is the directory in which a directory is; 0 of a file.
func (p *plain) parent(number int) int {
	if !p.isDir(number) {
		return 0
	}
	for in, names := range p.things {
		for _, kid := range names {
			if kid == number {
				return in
			}
		}
	}
	return 1 // which is the root's
}

// b2i is 1 of true.
func b2i(b bool) int {
	if b {
		return 1
	}
	return 0
}

// walk is where parts lead.
func (p *plain) walk(parts []string) (int, api.Errno) {
	at := 1
	for _, part := range parts {
		if !p.isDir(at) {
			return 0, api.ENotDir
		}
		switch part {
		case ".":
		case "..":
			at = p.parent(at)
		default:
			to, there := p.things[at][part]
			if !there {
				return 0, api.ENoEnt
			}
			at = to
		}
	}
	return at, api.OK
}

// spot is where a path was looked up: a directory, the last part, whether that is special, and which inode is there (0: none).
type spot struct {
	in      int
	last    string
	special bool
	number  int
}

// look looks a path up.
func (p *plain) look(text string) (spot, api.Errno) {
	parts, e := path.Split(text)
	if e != api.OK {
		return spot{}, e
	}
	if len(parts) == 0 {
		return spot{in: 1, special: true}, api.OK
	}
	last := parts[len(parts)-1]
	in, e := p.walk(parts[:len(parts)-1])
	if e != api.OK {
		return spot{}, e
	}
	if !p.isDir(in) {
		return spot{}, api.ENotDir
	}
	return spot{in, last, last == "." || last == "..", p.things[in][last]}, api.OK
}

// told is all that a call may be told.
type told struct {
	number int
	links  int
	made   bool
	stat   api.Stat
	e      api.Errno
}

// walkPath is where a path leads.
func (p *plain) walkPath(text string) (int, api.Errno) {
	parts, e := path.Split(text)
	if e != api.OK {
		return 0, e
	}
	return p.walk(parts)
}

func (p *plain) stat(text string) told {
	n, e := p.walkPath(text)
	if e != api.OK {
		return told{e: e}
	}
	return told{stat: api.Stat{Number: n, Dir: p.isDir(n), Links: p.links(n)}}
}

func (p *plain) create(text string, exclusive bool) told {
	s, e := p.look(text)
	switch {
	case e != api.OK:
		return told{e: e}
	case exclusive && (s.special || s.number > 0):
		return told{e: api.EExist}
	case s.special || p.isDir(s.number):
		return told{e: api.EIsDir}
	case s.number > 0:
		return told{number: s.number}
	}
	n := p.next
	p.next++
	p.things[n] = nil
	p.things[s.in][s.last] = n
	return told{number: n, made: true}
}

func (p *plain) mkdir(text string) told {
	s, e := p.look(text)
	switch {
	case e != api.OK:
		return told{e: e}
	case s.special || s.number > 0:
		return told{e: api.EExist}
	case p.links(s.in) == 1024:
		return told{e: api.EMLink}
	}
	p.things[p.next] = map[string]int{}
	p.things[s.in][s.last] = p.next
	p.next++
	return told{}
}

func (p *plain) rmdir(text string) told {
	s, e := p.look(text)
	switch {
	case e != api.OK:
		return told{e: e}
	case s.last == "":
		return told{e: api.EBusy}
	case s.last == ".":
		return told{e: api.EInval}
	case s.last == "..":
		return told{e: api.ENotEmpty}
	case s.number == 0:
		return told{e: api.ENoEnt}
	case !p.isDir(s.number):
		return told{e: api.ENotDir}
	case len(p.things[s.number]) > 0:
		return told{e: api.ENotEmpty}
	}
	delete(p.things, s.number)
	delete(p.things[s.in], s.last)
	return told{}
}

func (p *plain) link(text, other string) told {
	n, e := p.walkPath(text)
	if e != api.OK {
		return told{e: e}
	}
	if p.isDir(n) {
		return told{e: api.EPerm}
	}
	s, e := p.look(other)
	switch {
	case e != api.OK:
		return told{e: e}
	case s.special || s.number > 0:
		return told{e: api.EExist}
	case p.links(n) == 1024:
		return told{e: api.EMLink}
	}
	p.things[s.in][s.last] = n
	return told{}
}

func (p *plain) unlink(text string) told {
	s, e := p.look(text)
	switch {
	case e != api.OK:
		return told{e: e}
	case s.special:
		return told{e: api.EIsDir}
	case s.number == 0:
		return told{e: api.ENoEnt}
	case p.isDir(s.number):
		return told{e: api.EIsDir}
	}
	delete(p.things[s.in], s.last)
	return told{number: s.number, links: p.links(s.number)}
}

func (p *plain) rename(text, other string) told {
	from, e := p.look(text)
	switch {
	case e != api.OK:
		return told{e: e}
	case from.special:
		return told{e: api.EBusy}
	case from.number == 0:
		return told{e: api.ENoEnt}
	}
	to, e := p.look(other)
	switch {
	case e != api.OK:
		return told{e: e}
	case to.special:
		return told{e: api.EBusy}
	}
	isDir := p.isDir(from.number)
	for at := to.in; isDir; at = p.parent(at) {
		if at == from.number {
			return told{e: api.EInval}
		}
		if at == 1 {
			break
		}
	}
	there := p.isDir(to.number)
	switch {
	case to.number == from.number:
		return told{}
	case to.number > 0 && isDir && !there:
		return told{e: api.ENotDir}
	case to.number > 0 && !isDir && there:
		return told{e: api.EIsDir}
	case len(p.things[to.number]) > 0:
		return told{e: api.ENotEmpty}
	case isDir && !there && to.in != from.in && p.links(to.in) == 1024:
		return told{e: api.EMLink}
	}
	delete(p.things[from.in], from.last)
	p.things[to.in][to.last] = from.number
	if there {
		delete(p.things, to.number)
		return told{}
	}
	return told{number: to.number, links: p.links(to.number)}
}

// pairs is the keys and values of a tree that is so.
func (p *plain) pairs() map[string]string {
	l := map[string]string{"s": numbers(p.next, 1, 1)}
	for number, names := range p.things {
		l[keyOf('i', number)] = inodeText(1+b2i(names != nil), 0, p.links(number), p.parent(number))
		for text, kid := range names {
			l[keyOf('d', number)+text] = entryText(kid, 1+b2i(p.isDir(kid)))
		}
	}
	for _, number := range p.marks {
		l[keyOf('o', number)] = ""
	}
	return l
}

// keyOf is the key of a prefix and a number.
func keyOf(prefix byte, n int) string {
	return string(binary.BigEndian.AppendUint64([]byte{prefix}, uint64(n)))
}

// numbers is numbers of 32 bits, one behind the other.
func numbers(l ...int) string {
	var b []byte
	for _, n := range l {
		b = binary.BigEndian.AppendUint32(b, uint32(n))
	}
	return string(b)
}

// inodeText is an inode's value.
func inodeText(kind, size, links, parent int) string {
	return string([]byte{byte(kind)}) + numbers(size, links, parent)
}

// entryText is an entry's value.
func entryText(number, kind int) string {
	return numbers(number) + string([]byte{byte(kind)})
}

// call is one of the calls with its arguments.
type call struct {
	what      string
	p, other  string
	exclusive bool
}

// ofPlain does a call on a plain one.
func (c call) ofPlain(p *plain) told {
	switch c.what {
	case "stat":
		return p.stat(c.p)
	case "create":
		return p.create(c.p, c.exclusive)
	case "mkdir":
		return p.mkdir(c.p)
	case "rmdir":
		return p.rmdir(c.p)
	case "link":
		return p.link(c.p, c.other)
	case "unlink":
		return p.unlink(c.p)
	}
	return p.rename(c.p, c.other)
}

// ofTree does a call on a tree: the tree that is told is x, where the call makes none.
func (c call) ofTree(x *tree.Tree) (*tree.Tree, told) {
	var r told
	switch c.what {
	case "stat":
		r.stat, r.e = name.Stat(x, c.p)
		if n, e := name.Walk(x, c.p); n != r.stat.Number || e != r.e {
			r.number = -1
		}
		if r.e != api.OK {
			return nil, r
		}
		return x, r
	case "create":
		x, r.number, r.made, r.e = name.Create(x, c.p, c.exclusive)
	case "mkdir":
		x, r.e = name.Mkdir(x, c.p)
	case "rmdir":
		x, r.e = name.Rmdir(x, c.p)
	case "link":
		x, r.e = name.Link(x, c.p, c.other)
	case "unlink":
		x, r.number, r.links, r.e = name.Unlink(x, c.p)
	case "rename":
		x, r.number, r.links, r.e = name.Rename(x, c.p, c.other)
	}
	return x, r
}

// wantCall does a call on a tree and on a plain one, holds what is told and made against each other, and that the tree stays as it was.
func wantCall(t *testing.T, x *tree.Tree, p *plain, c call) (*tree.Tree, *plain, told) {
	t.Helper()
	q := p.fork()
	want := c.ofPlain(q)
	y, got := c.ofTree(x)
	if got != want || (y == nil) != (want.e != api.OK) {
		t.Fatalf("%+v: %v, want %v (of %v)", c, got, want, p)
	}
	if !maps.Equal(maps.Collect(x.Scan("", "")), p.pairs()) {
		t.Fatalf("%+v: the old tree is another one", c)
	}
	if want.e != api.OK {
		return x, p, want
	}
	if made := maps.Collect(y.Scan("", "")); !maps.Equal(made, q.pairs()) {
		t.Fatalf("%+v of %v: %q, want %q", c, p, made, q.pairs())
	}
	return y, q, want
}

// wantRight holds that a tree is right just if none of its files has 0 links without a mark.
func wantRight(t *testing.T, x *tree.Tree, p *plain) {
	t.Helper()
	want := api.OK
	for number := range p.things {
		if p.links(number) == 0 && !slices.Contains(p.marks, number) {
			want = api.EInval
		}
	}
	if e := name.Right(x); e != want {
		t.Fatalf("Right %d, want %d of %v", e, want, p)
	}
}

// settle lets a file that was left without links go, or marks it.
func settle(t *testing.T, x *tree.Tree, p *plain, number int, mark bool) *tree.Tree {
	t.Helper()
	if mark {
		p.marks = append(p.marks, number)
		y, e := inode.Orphan(x, number)
		return must(t, y, e)
	}
	delete(p.things, number)
	y, e := inode.Remove(x, number)
	return must(t, y, e)
}

// must is a tree that was not refused.
func must(t *testing.T, x *tree.Tree, e api.Errno) *tree.Tree {
	t.Helper()
	if x == nil || e != api.OK {
		t.Fatal("refused", e)
	}
	return x
}

// anyPath is a path, most often one of few and short ones.
func anyPath(r *rand.Rand) string {
	if r.Intn(60) == 0 {
		return []string{"", "a", "a/b", "/a\x00", "/" + strings.Repeat("n", 33), "/a/" + strings.Repeat("n", 33) + "/b", strings.Repeat("/", 513), "/a" + strings.Repeat("/", 510), "/a" + strings.Repeat("/", 511)}[r.Intn(9)]
	}
	text := ""
	for range r.Intn(5) {
		text += strings.Repeat("/", 1+r.Intn(12)/11) + []string{"a", "a", "b", "b", "c", strings.Repeat("n", 32), ".", ".."}[r.Intn(8)]
	}
	if text == "" || r.Intn(9) == 0 {
		text += "/"
	}
	return text
}

// anyCall is a call of any paths.
func anyCall(r *rand.Rand) call {
	what := []string{"stat", "create", "create", "mkdir", "mkdir", "mkdir", "rmdir", "link", "link", "unlink", "rename", "rename", "rename"}[r.Intn(13)]
	return call{what, anyPath(r), anyPath(r), r.Intn(3) == 0}
}

// TestAsPlain: P21.1 to P21.5, P21.7, P21.8: whatever is called, all is told and made as by the words, trees that are right stay so, and what is refused changes nothing.
func TestAsPlain(t *testing.T) {
	r := rand.New(rand.NewSource(21))
	seen := map[api.Errno]int{}
	most := 0
	for range 60 {
		x, p := format(t), newPlain()
		for range 250 {
			c := anyCall(r)
			var got told
			x, p, got = wantCall(t, x, p, c)
			seen[got.e]++
			wantRight(t, x, p)
			if (c.what == "unlink" || c.what == "rename") && got.number > 0 && got.links == 0 {
				x = settle(t, x, p, got.number, r.Intn(2) == 0)
				wantRight(t, x, p)
			}
			most = max(most, len(p.things))
		}
	}
	for _, e := range []api.Errno{api.OK, api.EPerm, api.ENoEnt, api.EExist, api.ENotDir, api.EIsDir, api.ENotEmpty, api.EInval, api.ENameTooLong, api.EBusy} {
		if seen[e] < 5 {
			t.Error("too seldom", e, seen[e])
		}
	}
	if most < 12 {
		t.Error("too few things", most)
	}
}

// somePaths leads to all that some worlds have, and to nothing, in many ways.
func somePaths() []string {
	return []string{
		"/", "//", "/.", "/..", "/./", "/a", "/a/", "/a/.", "/a/..", "/a/b", "/a/b/.", "/a/b/..", "/a/b/c", "/a/b/c/", "/a/b/../e", "/a/e", "/a/x", "/a/b/x",
		"/a/b/c/x", "/d", "/d/.", "/d/x", "/d/../a", "/d/../../d", "/d/../d/y", "/e", "/e/x", "/f", "/f/", "/f/.", "/f/..", "/f/x", "/g", "/h", "/x", "/x/", "/x/.", "/x/..", "/x/y",
		"/a/f", "/a/h", "/a/./b/./c/../../h", "", "a", "/a\x00", "/" + strings.Repeat("n", 33), "/x/" + strings.Repeat("n", 33), "/f/" + strings.Repeat("n", 32), strings.Repeat("/", 512), strings.Repeat("/", 513),
	}
}

// TestAllPaths: P21.1 to P21.5: each call of all pairs of these paths, in a world of directories, empty ones, files and links.
func TestAllPaths(t *testing.T) {
	x, p := format(t), newPlain()
	for _, c := range []call{
		{what: "mkdir", p: "/a"}, {what: "mkdir", p: "/a/b"}, {what: "mkdir", p: "/a/b/c"}, {what: "mkdir", p: "/a/e"}, {what: "mkdir", p: "/d"}, {what: "mkdir", p: "/e"},
		{what: "create", p: "/f"}, {what: "create", p: "/h"}, {what: "link", p: "/f", other: "/g"}, {what: "link", p: "/f", other: "/a/f"}, {what: "create", p: "/a/h"},
	} {
		var got told
		if x, p, got = wantCall(t, x, p, c); got.e != api.OK {
			t.Fatal(c, got)
		}
	}
	for _, text := range somePaths() {
		for _, what := range []string{"stat", "create", "mkdir", "rmdir", "unlink"} {
			y, q, _ := wantCall(t, x, p, call{what: what, p: text})
			wantRight(t, y, q)
		}
		wantCall(t, x, p, call{what: "create", p: text, exclusive: true})
		for _, other := range somePaths() {
			for _, what := range []string{"link", "rename"} {
				y, q, got := wantCall(t, x, p, call{what: what, p: text, other: other})
				wantRight(t, y, q)
				if what == "rename" && got.e == api.OK {
					wantBack(t, x, y, p, text, other)
				}
			}
		}
	}
}

// wantBack holds that rename there and back is nothing, where there was nothing in the new place.
func wantBack(t *testing.T, x, y *tree.Tree, p *plain, text, other string) {
	t.Helper()
	if to, _ := p.look(other); to.number > 0 {
		return
	}
	text, _ = path.Clean(text) // whose way back leads through no directory that is elsewhere now
	other, _ = path.Clean(other)
	z, gone, links, e := name.Rename(y, other, text)
	if z == nil || gone != 0 || links != 0 || e != api.OK {
		t.Fatal("back", text, other, gone, links, e)
	}
	if !maps.Equal(maps.Collect(x.Scan("", "")), maps.Collect(z.Scan("", ""))) {
		t.Error("there and back is not nothing", text, other)
	}
}
