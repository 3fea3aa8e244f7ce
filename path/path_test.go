package path_test

import (
	"slices"
	"strings"
	"testing"

	"dedup/api"
	"dedup/path"
)

// n is a text of so many letters.
func n(count int) string {
	return strings.Repeat("n", count)
}

// wantSplit holds a path's parts, by Split and by Parts.
func wantSplit(t *testing.T, p string, want ...string) {
	t.Helper()
	if l, e := path.Split(p); !slices.Equal(l, want) || e != api.OK {
		t.Errorf("Split %q: %q %d, want %q", p, l, e, want)
	}
	wantParts(t, p, want)
}

// wantParts holds what Parts goes over: places from 0 on, and parts.
func wantParts(t *testing.T, p string, want []string) {
	t.Helper()
	var got []string
	for place, part := range path.Parts(p) {
		if place != len(got) {
			t.Errorf("Parts %q: place %d behind %q", p, place, got)
		}
		got = append(got, part)
	}
	if !slices.Equal(got, want) {
		t.Errorf("Parts %q: %q, want %q", p, got, want)
	}
}

// wantRefused holds why a path is refused, by all that tell of one.
func wantRefused(t *testing.T, p string, want api.Errno) {
	t.Helper()
	if l, e := path.Split(p); len(l) != 0 || e != want {
		t.Errorf("Split %q: %q %d, want %d", p, l, e, want)
	}
	wantParts(t, p, nil)
	wantNoParent(t, p, want)
	if s, e := path.Clean(p); s != "" || e != want {
		t.Errorf("Clean %q: %q %d, want %d", p, s, e, want)
	}
}

// wantNoParent holds why a path has no last part.
func wantNoParent(t *testing.T, p string, want api.Errno) {
	t.Helper()
	if l, s, e := path.Parent(p); len(l) != 0 || s != "" || e != want {
		t.Errorf("Parent %q: %q %q %d, want %d", p, l, s, e, want)
	}
}

// wantParent holds a path's last part, and those ahead.
func wantParent(t *testing.T, p string, name string, dir ...string) {
	t.Helper()
	if l, s, e := path.Parent(p); !slices.Equal(l, dir) || s != name || e != api.OK {
		t.Errorf("Parent %q: %q %q %d, want %q %q", p, l, s, e, dir, name)
	}
}

// wantClean holds a path without dots.
func wantClean(t *testing.T, p, want string) {
	t.Helper()
	if s, e := path.Clean(p); s != want || e != api.OK {
		t.Errorf("Clean %q: %q %d, want %q", p, s, e, want)
	}
}

// TestExample: P20.1, P20.3: the chapter's examples.
func TestExample(t *testing.T) {
	wantSplit(t, "/a//b/", "a", "b")
	wantSplit(t, "/")
	wantRefused(t, "a", api.EInval)
	wantClean(t, "/a/./b/../../..//c", "/c")
	if !path.Slash("/a/") || path.Slash("/") {
		t.Error("Slash")
	}
}

// TestSplit: P20.1: parts in order, dots among them, as long as they may be; names are bytes.
func TestSplit(t *testing.T) {
	wantSplit(t, "//")
	wantSplit(t, "/a", "a")
	wantSplit(t, "//a", "a")
	wantSplit(t, "/a/", "a")
	wantSplit(t, "/b/a/b", "b", "a", "b")
	wantSplit(t, "/./../.../.a/..a", ".", "..", "...", ".a", "..a")
	wantSplit(t, "/\xFF\x80/\x01/é/ / a ", "\xFF\x80", "\x01", "é", " ", " a ")
	wantSplit(t, "/\\/a\nb", "\\", "a\nb")
	wantSplit(t, "/"+n(32), n(32))
	wantSplit(t, "/"+n(32)+"//"+n(32)+"/", n(32), n(32))
	wantSplit(t, strings.Repeat("/", 512))
	wantSplit(t, strings.Repeat("/", 480)+n(32), n(32))
	wantSplit(t, strings.Repeat("/a", 256), slices.Repeat([]string{"a"}, 256)...)
	wantSplit(t, strings.Repeat("/"+n(32), 15)+"/"+n(16), append(slices.Repeat([]string{n(32)}, 15), n(16))...)
}

// TestRefused: P20.1, P20.2, P20.3: why a path is refused, and what is looked at first.
func TestRefused(t *testing.T) {
	wantRefused(t, "", api.ENoEnt)
	for _, p := range []string{"a", "a/", "a/b", ".", "..", "./a", " /a", "\x00", "\x00/", "/\x00", "/a\x00", "/\x00a", "/a/b\x00c/d", "/a/\x00", "\\a", "é", strings.Repeat("n", 512), "/" + n(510) + "\x00", n(33) + "/", "/" + n(33) + "/\x00", "/\x00/" + n(33)} {
		wantRefused(t, p, api.EInval)
	}
	for _, p := range []string{
		"/" + n(33), "/" + n(33) + "/", "//" + n(33), "/a/" + n(33) + "/b", "/" + n(32) + "/" + n(33), "/" + n(511), "/../" + n(33), "/" + n(33) + "/..", "/" + strings.Repeat(".", 33),
		strings.Repeat("/", 513), strings.Repeat("/a", 256) + "/", "/" + n(512), n(513), "\x00" + n(512), "/a\x00" + n(512), "/" + n(1<<20), strings.Repeat("\x00", 1<<20),
	} {
		wantRefused(t, p, api.ENameTooLong)
	}
}

// TestName: P20.2: which names may be given; EInval is looked at first.
func TestName(t *testing.T) {
	for _, s := range []string{"a", "...", ".a", "a.", "..a", "a..", " ", "\x01", "\xFF", "\x80\xC3", "é", "\\", n(32), strings.Repeat(".", 32), strings.Repeat("\xFF", 32)} {
		if e := path.Name(s); e != api.OK {
			t.Errorf("Name %q: %d", s, e)
		}
	}
	for _, s := range []string{"", ".", "..", "/", "//", "/a", "a/", "a/b", "\x00", "a\x00", "\x00a", "a\x00b", "./", "../", n(32) + "/", n(33) + "/", "/" + n(33), n(33) + "\x00", n(20) + "\x00" + n(20), n(1<<20) + "/"} {
		if e := path.Name(s); e != api.EInval {
			t.Errorf("Name %q: %d", s, e)
		}
	}
	for _, s := range []string{n(33), n(34), n(1 << 20), strings.Repeat(".", 33)} {
		if e := path.Name(s); e != api.ENameTooLong {
			t.Errorf("Name %q: %d", s, e)
		}
	}
}

// TestParent: P20.2: the last part and those ahead; EInval where there is none.
func TestParent(t *testing.T) {
	wantParent(t, "/a", "a")
	wantParent(t, "//a//", "a")
	wantParent(t, "/a/b", "b", "a")
	wantParent(t, "/a/b/c/", "c", "a", "b")
	wantParent(t, "/..", "..")
	wantParent(t, "/a/.", ".", "a")
	wantParent(t, "/"+n(32)+"/"+n(32), n(32), n(32))
	for _, p := range []string{"/", "//", strings.Repeat("/", 512)} {
		wantNoParent(t, p, api.EInval)
	}
}

// TestJoin: P20.3: each part with a slash ahead, whatever it is.
func TestJoin(t *testing.T) {
	for want, l := range map[string][]string{
		"/": nil, "/a": {"a"}, "/a/b/a": {"a", "b", "a"}, "//": {"", ""}, "/../.": {"..", "."}, "/a/b//c": {"a/b", "/c"}, "/\x00": {"\x00"}, "/" + n(600): {n(600)},
	} {
		if s := path.Join(l); s != want {
			t.Errorf("Join %q: %q", l, s)
		}
	}
	if path.Join([]string{}) != "/" || path.Join([]string{""}) != "/" {
		t.Error("Join of nothing")
	}
}

// TestClean: P20.3: a dot falls away, two take what is left ahead of them with them, or nothing.
func TestClean(t *testing.T) {
	for p, want := range map[string]string{
		"/": "/", "//": "/", "/.": "/", "/..": "/", "/../..": "/", "/../../a": "/a", "/a": "/a", "/a/": "/a", "//a//b//": "/a/b", "/./a/.": "/a",
		"/a/..": "/", "/a/../..": "/", "/a/../../b": "/b", "/a/b/..": "/a", "/a/b/../c": "/a/c", "/a/b/../../c": "/c", "/a/./..": "/", "/a/b/./../c": "/a/c", "/a/../b/../c": "/c",
		"/...": "/...", "/.a/..b": "/.a/..b", "/a/.../..": "/a", "/a/a/a/../a": "/a/a/a", "/\xFF/..": "/", strings.Repeat("/..", 170): "/", strings.Repeat("/a", 256): strings.Repeat("/a", 256),
		"/" + n(32) + "/../" + n(32): "/" + n(32),
	} {
		wantClean(t, p, want)
	}
}

// TestSlash: P20.3: of any text, also of one that is no path.
func TestSlash(t *testing.T) {
	for _, p := range []string{"/a/", "a/", "a//", "//a//", "/./", "../", "\x00/", "/\x00/", " /", n(1<<20) + "/", "/" + n(33) + "/", "a" + strings.Repeat("/", 600)} {
		if !path.Slash(p) {
			t.Errorf("Slash %q is false", p)
		}
	}
	for _, p := range []string{"", "/", "//", "///", strings.Repeat("/", 1<<20), "a", "/a", "a/b", "/a/b", "//a", "/a/ ", "/\x00", "/a/.", n(1 << 20)} {
		if path.Slash(p) {
			t.Errorf("Slash %q is true", p)
		}
	}
}

// TestInside: P20.3: all parts of the one at the beginning of the other, and more.
func TestInside(t *testing.T) {
	a, ab, abc, b, ba := []string{"a"}, []string{"a", "b"}, []string{"a", "b", "c"}, []string{"b"}, []string{"b", "a"}
	for _, c := range [][2][]string{{nil, a}, {{}, ba}, {a, ab}, {a, abc}, {ab, abc}, {b, ba}, {nil, {""}}, {{""}, {"", "a"}}} {
		if !path.Inside(c[0], c[1]) || path.Inside(c[1], c[0]) {
			t.Errorf("%q is not inside %q, or that inside it", c[1], c[0])
		}
	}
	for _, c := range [][2][]string{{nil, nil}, {nil, {}}, {a, a}, {ab, ab}, {a, b}, {a, ba}, {b, ab}, {ab, ba}, {a, {"ab"}}, {a, {"aa", "b"}}, {{"a", "c"}, abc}, {{"a/b"}, abc}, {ab, {"a", "c", "b"}}} {
		if path.Inside(c[0], c[1]) || path.Inside(c[1], c[0]) {
			t.Errorf("%q and %q are inside one another", c[0], c[1])
		}
	}
}

// TestPartsAgain: P20.1 with R5: Parts begins anew each time, may be stopped, within itself too.
func TestPartsAgain(t *testing.T) {
	parts, want := path.Parts("/a//b/c/"), []string{"a", "b", "c"}
	for stop := range want {
		var got []string
		for place, part := range parts {
			got = append(got, part)
			if place == stop {
				break
			}
		}
		if !slices.Equal(got, want[:stop+1]) {
			t.Error("stopped", got)
		}
	}
	for range parts {
		var got []string
		for _, part := range parts {
			got = append(got, part)
		}
		if !slices.Equal(got, want) {
			t.Error("within itself", got)
		}
	}
}

// TestNewMemory: R3: what is handed in stays as it is, the room behind its end too; what is answered is new each time.
func TestNewMemory(t *testing.T) {
	room := []string{"a", "b", "c", "d"}
	path.Join(room[:2])
	path.Inside(room[:1], room[:2])
	path.Inside(room[:2], room[:1])
	if !slices.Equal(room, []string{"a", "b", "c", "d"}) {
		t.Error("changed", room)
	}
	l, _ := path.Split("/a/b")
	l[0] = "?"
	dir, _, _ := path.Parent("/a/b")
	dir[0] = "?"
	_ = append(dir, "?")
	parts := path.Parts("/a/b")
	for range parts {
	}
	wantSplit(t, "/a/b", "a", "b")
	wantParent(t, "/a/b", "b", "a")
}
