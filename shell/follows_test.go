package shell_test

import (
	"fmt"
	"math/rand"
	"strings"
	"testing"

	"dedup/api"
	"dedup/crash"
	"dedup/fs"
	"dedup/fsck"
	"dedup/model"
	"dedup/script"
	"dedup/shell"
)

// anyPath is a path that may be there.
func anyPath(r *rand.Rand) string {
	return []string{"/a", "/b", "/d", "/d/a", "/d/b", "/a/b", "/", "", "/\xff\"\\"}[r.Intn(9)]
}

// anyOp is an operation of any kind.
func anyOp(r *rand.Rand) api.Op {
	o := api.Op{Kind: 1 + r.Intn(api.OpRemount)}
	switch o.Kind {
	case api.OpOpen:
		o.Path, o.Flags = anyPath(r), []int{1, 1, 1, 0, 5, 8}[r.Intn(6)]
	case api.OpClose, api.OpFsync:
		o.Handle = r.Intn(2)
	case api.OpRead:
		o.Handle, o.Offset, o.N = r.Intn(2), r.Intn(300)-9, r.Intn(300)
	case api.OpWrite:
		o.Handle, o.Offset, o.Data = r.Intn(2), r.Intn(300), strings.Repeat(string([]byte{byte(r.Intn(256)), 'x'}), r.Intn(100))
	case api.OpTruncate:
		o.Handle, o.N = r.Intn(2), r.Intn(300)
	case api.OpStat, api.OpList, api.OpMkdir, api.OpRmdir, api.OpUnlink:
		o.Path = anyPath(r)
	case api.OpLink, api.OpRename:
		o.Path, o.Other = anyPath(r), anyPath(r)
	}
	return o
}

// anyLives is a shape and lives on it.
func anyLives(r *rand.Rand) (api.Shape, []api.Life) {
	s := api.Shape{Sector: 512, Sectors: []int{16, 24, 64, 200}[r.Intn(4)], Journal: 2 + r.Intn(3), Pack: 2 + r.Intn(3), Cut: api.Cut{Min: 8, Normal: 32, Max: 128, Seed: r.Uint64()}, Bits: r.Intn(2) * 256, Dedup: r.Intn(2) == 0}
	var l []api.Life
	for range r.Intn(4) {
		life := api.Life{Stop: r.Intn(40) - 1}
		for range r.Intn(20) {
			life.Ops = append(life.Ops, anyOp(r))
			if len(life.Ops) == 1 && r.Intn(2) == 0 {
				life.Ops[0] = api.Op{Kind: api.OpOpen, Path: "/a", Flags: api.FlagCreate}
			}
		}
		for i := range r.Intn(5) {
			life.Keep = append(life.Keep, i*r.Intn(3))
		}
		l = append(l, life)
	}
	return s, l
}

// textOf is a text of lives.
func textOf(t *testing.T, s api.Shape, lives []api.Life) string {
	t.Helper()
	text, e := script.Print(s, lives)
	if e != api.OK {
		t.Fatal("Print", e)
	}
	return text
}

// plainPlay is what !play should tell.
func plainPlay(lives []api.Life, tale api.Tale) string {
	text := ""
	for i, x := range tale.Lives {
		text += fmt.Sprintf("life %d mount %d\n", i, x.Mount)
		for n, r := range x.Results {
			text += script.PrintResult(lives[i].Ops[n], r) + "\n"
		}
		text += fmt.Sprintf("begun %d ended %d writes %d\n", x.Begun, x.Ended, x.Writes)
	}
	return text + fmt.Sprintf("end %d", len(tale.End))
}

// plainItems is what !items should tell.
func plainItems(l []api.Item) string {
	text := ""
	for _, it := range l {
		kind, data := "file", " "+script.Quote(it.Data)
		if it.Stat.Dir {
			kind, data = "dir", ""
		}
		text += fmt.Sprintf("\n%s %s %d %d %d%s", script.Quote(it.Path), kind, it.Stat.Number, it.Stat.Size, it.Stat.Links, data)
	}
	return text[1:]
}

// plainModel is what !model should tell.
func plainModel(lives []api.Life) string {
	w, text := model.New(), ""
	for _, life := range lives {
		for _, o := range life.Ops {
			text += script.PrintResult(o, w.Do(o)) + "\n"
		}
	}
	return strings.TrimSuffix(text, "\n")
}

// TestPlain: P30.1: what each command tells of any lives, by the layers below.
func TestPlain(t *testing.T) {
	for seed := range 200 {
		r := rand.New(rand.NewSource(int64(seed)))
		shape, lives := anyLives(r)
		text := textOf(t, shape, lives)
		s := laid(t, text)
		tale := crash.Play(shape, lives)
		var first []api.Op
		if len(lives) > 0 {
			first = lives[0].Ops
		}
		writes, e := crash.Writes(shape, first)
		if tale.Err != api.OK || e != api.OK {
			t.Fatal("Play", tale.Err, e)
		}
		for name, want := range map[string]string{
			"!lines": fmt.Sprint(strings.Count(text, "\n")), "!check": "ok", "!print": strings.TrimSuffix(text, "\n"), "!play": plainPlay(lives, tale),
			"!items": plainItems(tale.End), "!explain": "explained", "!model": plainModel(lives), "!fsck": "clean", "!writes": fmt.Sprint(writes),
		} {
			wantTold(t, s, name, want)
		}
		f, _ := fs.Format(shape)
		for _, o := range append(first, api.Op{Kind: api.OpSync}) {
			f.Do(o)
		}
		if v := fsck.Check(shape.Sector, f.Volume().Disk().Image()); !v.Clean {
			t.Errorf("seed %d: %+v", seed, v)
		}
	}
}

// anyLine is a line that may stand in a text, a command, or another one.
func anyLine(r *rand.Rand) string {
	switch r.Intn(6) {
	case 0:
		return []string{"", "life -1", "life 3", "keep 0 1", "keep", "none", " ", head[:17]}[r.Intn(8)]
	case 1, 2:
		l := commands()
		return l[r.Intn(len(l))]
	case 3:
		return []string{"!", "!none", "!play ", "!New"}[r.Intn(4)]
	}
	line, _ := script.PrintOp(anyOp(r))
	return line
}

// TestFollows: P30.3: of any text: asked again a command tells the same, and changes nothing but by !new; what is told of the text's beginning is the beginning of what is told.
func TestFollows(t *testing.T) {
	for seed := range 150 {
		r := rand.New(rand.NewSource(int64(seed)))
		text := ""
		if r.Intn(5) > 0 {
			text = head + "life -1\n"
		}
		told := shell.Run(text)
		s := shell.New()
		for line := range strings.Lines(text) {
			s.Line(strings.TrimSuffix(line, "\n"))
		}
		for range r.Intn(25) {
			line := anyLine(r)
			text += line + "\n"
			was := s.Text()
			now := s.Line(line)
			if strings.HasPrefix(line, "!") {
				if (s.Text() != was) != (line == "!new" && was != "") {
					t.Fatalf("seed %d: %q changed %q to %q", seed, line, was, s.Text())
				}
				if again := s.Line(line); again != now {
					t.Fatalf("seed %d: %q tells %q, then %q", seed, line, now, again)
				}
			} else if now != "" || s.Text() != was+line+"\n" {
				t.Fatalf("seed %d: %q: %q", seed, line, now)
			}
			if now != "" {
				told += now + "\n"
			}
			if got := shell.Run(text); got != told {
				t.Fatalf("seed %d: Run of %q: %q, want %q", seed, text, got, told)
			}
			if got := shell.Run(strings.TrimSuffix(text, "\n")); got != told {
				t.Fatalf("seed %d: Run of %q without its last newline: %q, want %q", seed, text, got, told)
			}
		}
	}
}

// TestPrintedAgain: P30.3: what !print tells, laid down in a new shell, is told again there; the same of what !check calls ok among texts that were spoilt.
func TestPrintedAgain(t *testing.T) {
	printed := 0
	for seed := range 400 {
		r := rand.New(rand.NewSource(int64(seed)))
		shape, lives := anyLives(r)
		text := textOf(t, shape, lives)
		if r.Intn(2) == 0 {
			l := strings.SplitAfter(text, "\n")
			i, j := r.Intn(len(l)), r.Intn(len(l))
			l[i], l[j] = l[j], l[i]
			text = strings.Join(l, "")
		}
		s := shell.New()
		for line := range strings.Lines(text) {
			s.Line(strings.TrimSuffix(line, "\n"))
		}
		told := s.Line("!print")
		if check := s.Line("!check"); check != "ok" {
			if told != check || s.Line("!explain") != check {
				t.Errorf("seed %d: %q %q", seed, told, check)
			}
			continue
		}
		printed++
		wantTold(t, laid(t, told+"\n"), "!print", told)
		wantTold(t, s, "!explain", "explained")
		wantTold(t, s, "!fsck", "clean")
	}
	if printed < 200 || printed > 390 {
		t.Error("printed", printed)
	}
}
