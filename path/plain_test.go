package path_test

import (
	"math/rand"
	"slices"
	"strings"
	"testing"

	"dedup/api"
	"dedup/path"
)

// plainSplit is a path's parts, or why there are none, by the chapter's words.
func plainSplit(p string) ([]string, api.Errno) {
	switch {
	case len(p) == 0:
		return nil, api.ENoEnt
	case len(p) > 512:
		return nil, api.ENameTooLong
	case !strings.HasPrefix(p, "/"), strings.Contains(p, "\x00"):
		return nil, api.EInval
	}
	parts := slices.DeleteFunc(strings.Split(p, "/"), func(s string) bool { return s == "" })
	if slices.ContainsFunc(parts, func(s string) bool { return len(s) > 32 }) {
		return nil, api.ENameTooLong
	}
	return parts, api.OK
}

// plainClean is a path without dots: one that falls away at a time.
func plainClean(parts []string) string {
	for i, part := range parts {
		if part == "." || part == ".." && i == 0 {
			return plainClean(slices.Delete(slices.Clone(parts), i, i+1))
		}
		if part == ".." {
			return plainClean(slices.Delete(slices.Clone(parts), i-1, i+1))
		}
	}
	s := ""
	for _, part := range parts {
		s += "/" + part
	}
	if s == "" {
		return "/"
	}
	return s
}

// plainName tells why a name may not be given.
func plainName(s string) api.Errno {
	switch {
	case s == "", s == ".", s == "..", strings.Contains(s, "/"), strings.Contains(s, "\x00"):
		return api.EInval
	case len(s) > 32:
		return api.ENameTooLong
	}
	return api.OK
}

// wantAsPlain holds all that is told of a text against the words, and what follows of it.
func wantAsPlain(t *testing.T, p string) {
	t.Helper()
	if e := path.Name(p); e != plainName(p) {
		t.Errorf("Name %q: %d", p, e)
	}
	rest := p
	for strings.HasPrefix(rest, "/") {
		rest = rest[1:]
	}
	if got, want := path.Slash(p), rest != "" && rest[len(rest)-1] == '/'; got != want {
		t.Errorf("Slash %q: %t", p, got)
	}
	parts, e := plainSplit(p)
	if e != api.OK {
		wantRefused(t, p, e)
		return
	}
	wantSplit(t, p, parts...)
	if last := len(parts) - 1; last < 0 {
		wantNoParent(t, p, api.EInval)
	} else {
		wantParent(t, p, parts[last], parts[:last]...)
	}
	clean := plainClean(parts)
	wantClean(t, p, clean)
	wantClean(t, clean, clean)
	for place, part := range path.Parts(clean) {
		if part == "." || part == ".." {
			t.Errorf("Clean %q: part %d is %q", p, place, part)
		}
	}
}

// TestEveryShortText: P20.1 to P20.4: all texts of a few letters are told of by the words.
func TestEveryShortText(t *testing.T) {
	for length, l := 0, []string{""}; length <= 8; length++ {
		var longer []string
		for _, p := range l {
			wantAsPlain(t, p)
			for _, letter := range []string{"/", ".", "a", "\x00"} {
				if letter != "\x00" || length < 5 { // longer ones with it are refused alike
					longer = append(longer, p+letter)
				}
			}
		}
		l = longer
	}
}

// TestManyTexts: P20.1 to P20.4: longer texts by chance, about the limits.
func TestManyTexts(t *testing.T) {
	r := rand.New(rand.NewSource(20))
	pieces := []string{"/", "/", "//", "/.", "/..", "/a", "/b/", "a", ".", "\xFF", "/" + n(31), "/" + n(32), n(1), "/" + n(16)}
	refused := 0
	for range 20000 {
		p := "/"
		for most := r.Intn(560); len(p) < most; {
			p += pieces[r.Intn(len(pieces))]
		}
		if r.Intn(50) == 0 {
			at := r.Intn(len(p) + 1)
			p = p[:at] + "\x00" + p[at:]
		}
		if _, e := path.Split(p); e != api.OK {
			refused++
		}
		wantAsPlain(t, p)
	}
	if refused < 1000 || refused > 19000 {
		t.Error("refused", refused)
	}
}

// someParts is names which may be, by chance, of few kinds, so that some are alike.
func someParts(r *rand.Rand) []string {
	var l []string
	for range r.Intn(5) {
		l = append(l, []string{"a", "b", "aa", "...", "\xFF"}[r.Intn(5)])
	}
	return l
}

// TestJoinedAndSplit: P20.4: Split of Join of names which may be is these, if the path is not too long.
func TestJoinedAndSplit(t *testing.T) {
	r := rand.New(rand.NewSource(204))
	for range 3000 {
		var l []string
		for range r.Intn(25) {
			name := make([]byte, 1+r.Intn(api.MaxName))
			for i := range name {
				name[i] = byte(1 + r.Intn(255))
			}
			if path.Name(string(name)) == api.OK {
				l = append(l, string(name))
			}
		}
		p := path.Join(l)
		if len(p) > api.MaxPath {
			wantRefused(t, p, api.ENameTooLong)
			continue
		}
		wantSplit(t, p, l...)
	}
}

// TestInsideFollows: P20.4: no path is inside itself, nor two inside one another; what is inside something inside is inside.
func TestInsideFollows(t *testing.T) {
	r := rand.New(rand.NewSource(2004))
	chains := 0
	for range 60000 {
		a, b, c := someParts(r), someParts(r), someParts(r)
		if r.Intn(2) == 0 {
			b = append(slices.Clone(a), b...)
		}
		if r.Intn(2) == 0 {
			c = append(slices.Clone(b), c...)
		}
		if path.Inside(a, a) || path.Inside(a, b) && path.Inside(b, a) {
			t.Fatal("inside itself", a, b)
		}
		if want := len(b) > len(a) && path.Join(b[:len(a)]) == path.Join(a); path.Inside(a, b) != want {
			t.Fatal("Inside", a, b, !want)
		}
		if path.Inside(a, b) && path.Inside(b, c) {
			chains++
			if !path.Inside(a, c) {
				t.Fatal("not inside", a, b, c)
			}
		}
	}
	if chains < 1000 {
		t.Error("too few", chains)
	}
}
