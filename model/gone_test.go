package model

import (
	"testing"

	"dedup/api"
)

// wantThings holds how many files and directories a world keeps.
func wantThings(t *testing.T, w *World, want int) {
	t.Helper()
	if len(w.things) != want {
		t.Error("things", len(w.things), "want", want)
	}
}

// TestGone: P23.1, P23.2: files that are gone, and directories, are there no more, whatever took their last link or descriptor; others stay.
func TestGone(t *testing.T) {
	w := New()
	open := func(p string) { w.Do(api.Op{Kind: api.OpOpen, Path: p, Flags: api.FlagCreate}) }
	for _, p := range []string{"/f", "/g", "/h"} {
		open(p)
	}
	open("/f")
	w.Do(api.Op{Kind: api.OpMkdir, Path: "/d"})
	w.Do(api.Op{Kind: api.OpMkdir, Path: "/e"})
	wantThings(t, w, 6)
	w.Do(api.Op{Kind: api.OpUnlink, Path: "/f"})
	w.Do(api.Op{Kind: api.OpClose, Handle: 0})
	wantThings(t, w, 6)
	wantThings(t, w.Fork(), 6)
	wantThings(t, w.Restart(), 5)
	w.Do(api.Op{Kind: api.OpClose, Handle: 3})
	wantThings(t, w, 5)
	w.Do(api.Op{Kind: api.OpRename, Path: "/g", Other: "/h"}) // h is open still
	wantThings(t, w, 5)
	w.Do(api.Op{Kind: api.OpRename, Path: "/d", Other: "/e"})
	wantThings(t, w, 4)
	w.Do(api.Op{Kind: api.OpRemount})
	wantThings(t, w, 3)
	open("/i")
	w.Do(api.Op{Kind: api.OpClose, Handle: 0})
	w.Do(api.Op{Kind: api.OpLink, Path: "/i", Other: "/j"})
	w.Do(api.Op{Kind: api.OpUnlink, Path: "/i"})
	wantThings(t, w, 4)
	w.Do(api.Op{Kind: api.OpRename, Path: "/h", Other: "/j"})
	wantThings(t, w, 3)
	w.Do(api.Op{Kind: api.OpUnlink, Path: "/j"})
	w.Do(api.Op{Kind: api.OpRmdir, Path: "/e"})
	wantThings(t, w, 1)
}
