package shell_test

import (
	"strconv"
	"strings"
	"testing"

	"dedup/api"
	"dedup/shell"
)

// head is the first lines of a text: a small volume.
const head = "volume 512 64 8 4\ncut 16 64 128 7\nindex 256 dedup\n"

// example is the chapter's text.
const example = head + "life -1\nopen \"/f\" 1\nwrite 0 0 \"hello\"\nsync\n"

// commands is all that there are.
func commands() []string {
	return []string{"!new", "!lines", "!check", "!print", "!play", "!items", "!explain", "!model", "!fsck", "!writes"}
}

// laid is a shell with a text.
func laid(t *testing.T, text string) *shell.Shell {
	t.Helper()
	s := shell.New()
	for line := range strings.Lines(text) {
		wantTold(t, s, strings.TrimSuffix(line, "\n"), "")
	}
	if s.Text() != text {
		t.Fatalf("Text %q, want %q", s.Text(), text)
	}
	return s
}

// wantTold holds what is told of a line.
func wantTold(t *testing.T, s *shell.Shell, line, want string) {
	t.Helper()
	if got := s.Line(line); got != want {
		t.Errorf("%.80q: %.2000q, want %.2000q", line, got, want)
	}
}

// wantRun holds what is told of a text.
func wantRun(t *testing.T, text, want string) {
	t.Helper()
	if got := shell.Run(text); got != want {
		t.Errorf("Run of %.200q: %.2000q, want %.2000q", text, got, want)
	}
}

// TestExample: P30.1: the chapter's example, of each command.
func TestExample(t *testing.T) {
	s := laid(t, example)
	wantTold(t, s, "!explain", "explained")
	wantTold(t, s, "!items", "\"/\" dir 1 0 2\n\"/f\" file 2 5 1 \"hello\"")
	wantTold(t, s, "!fsck", "clean")
	wantTold(t, s, "!model", "0\n5\nok")
	wantTold(t, s, "!lines", "7")
	wantTold(t, s, "!check", "ok")
	wantTold(t, s, "!print", strings.TrimSuffix(example, "\n"))
	wantTold(t, s, "!writes", "4") // a container's sector, a flush, one of the journal, a flush
	wantTold(t, s, "!play", "life 0 mount 0\n0\n5\nok\nbegun 3 ended 3 writes 4\nend 2")
	if s.Text() != example {
		t.Errorf("Text %q", s.Text())
	}
	wantTold(t, s, "!new", "0")
	if s.Text() != "" {
		t.Errorf("Text %q", s.Text())
	}
	wantTold(t, s, "!lines", "0")
	wantTold(t, s, "!check", "error 260 at 0")
}

// TestLaid: P30.1: lines of any bytes are laid down, each with a newline behind it; nothing is told of them.
func TestLaid(t *testing.T) {
	s := shell.New()
	if s.Text() != "" {
		t.Errorf("Text %q", s.Text())
	}
	want := ""
	for i, line := range []string{"volume 512 64 8 4", "", " ", " !new", "\x00\xff\r\t", "new", "?!", "a!new", "\"", "", strings.Repeat("x", 5000), "life -1"} {
		wantTold(t, s, line, "")
		want += line + "\n"
		if s.Text() != want {
			t.Fatalf("Text %q, want %q", s.Text(), want)
		}
		wantTold(t, s, "!lines", strconv.Itoa(i+1))
	}
	wantTold(t, s, "!new", "0")
	wantTold(t, s, "again", "")
	if s.Text() != "again\n" {
		t.Errorf("Text %q", s.Text())
	}
	other := shell.New()
	if other.Text() != "" {
		t.Errorf("another one's text %q", other.Text())
	}
}

// TestLineRefused: P30.1: lines that are two, and texts that would be too long; which of both comes first; nothing is laid down then.
func TestLineRefused(t *testing.T) {
	s := laid(t, example)
	for _, line := range []string{"\n", "a\nb", "a\n", "\na", "!new\n", "!new\n!new", "\n!new", "!\n", strings.Repeat("a", api.MaxText) + "\n"} {
		wantTold(t, s, line, "error 1")
	}
	room := api.MaxText - len(example) - 1
	wantTold(t, s, strings.Repeat("a", room+1), "error 3")
	wantTold(t, s, strings.Repeat("a", 3*api.MaxText), "error 3")
	if s.Text() != example {
		t.Error("the text has become", len(s.Text()))
	}
	wantTold(t, s, strings.Repeat("a", room), "")
	if want := example + strings.Repeat("a", room) + "\n"; s.Text() != want {
		t.Error("the text has", len(s.Text()))
	}
	wantTold(t, s, "", "error 3")
	wantTold(t, s, "a", "error 3")
	wantTold(t, s, "\n", "error 1")
	wantTold(t, s, "!lines", "8") // what is not laid down has room
	wantTold(t, s, "!check", "error 260 at 7")
	wantTold(t, s, "!"+strings.Repeat("a", 2*api.MaxText), "error 300")
	wantTold(t, s, "!new", "0")
	wantTold(t, s, strings.Repeat("a", api.MaxText), "error 3")
	wantTold(t, s, strings.Repeat("a", api.MaxText-1), "")
	wantTold(t, s, "!lines", "1")
}

// TestClosed: P30.1: of a Shell that New did not give.
func TestClosed(t *testing.T) {
	for _, s := range []*shell.Shell{nil, {}} {
		for _, line := range append(commands(), "", "a", "a\nb", "!", "!none", strings.Repeat("a", api.MaxText)) {
			wantTold(t, s, line, "error 6")
		}
		if s.Text() != "" {
			t.Errorf("Text %q", s.Text())
		}
	}
}

// TestNoCommand: P30.1: what begins with ! and is no command, whatever the text is.
func TestNoCommand(t *testing.T) {
	for _, text := range []string{"", example, "none\n"} {
		s := laid(t, text)
		for _, name := range commands() {
			for _, line := range []string{name + " ", name + "s", "!" + name, "! " + name[1:], name[:len(name)-1], strings.ToUpper(name), name + " 0", name + "\x00", name + "\r", name + name} {
				wantTold(t, s, line, "error 300")
			}
		}
		for _, line := range []string{"!", "!!", "! ", "!\x00", "!\xff", "!open \"/f\" 1", "!help"} {
			wantTold(t, s, line, "error 300")
		}
		if s.Text() != text {
			t.Errorf("Text %q", s.Text())
		}
	}
}

// TestNoText: P30.1: of texts that Parse refuses the error and the place are told.
func TestNoText(t *testing.T) {
	sync := strings.Repeat("sync\n", api.MaxOps)
	for text, want := range map[string]string{
		"":                                  "error 260 at 0",
		"\n":                                "error 260 at 0",
		"life":                              "error 260 at 0",
		"volume 512 64 8 4\n":               "error 260 at 1",
		head[:strings.Index(head, "index")]: "error 260 at 2",
		head + "sync\n":                     "error 260 at 3",
		example + "\n":                      "error 260 at 7",
		example + "keep 1\nsync\n":          "error 260 at 8",
		strings.Replace(head, "64 8 4", "64 8 1", 1):          "error 41 at 0",
		strings.Replace(example, "512", "513", 1):             "error 41 at 0",
		head + strings.Repeat("life 0\n", api.MaxLives+1):     "error 3 at 0",
		head + "life 0\n" + sync + "life 0\nsync\n":           "error 3 at 0",
		strings.Replace(head, "dedup", "other", 1) + "none\n": "error 260 at 2",
	} {
		s := shell.New()
		for line := range strings.Lines(text) {
			wantTold(t, s, strings.TrimSuffix(line, "\n"), "")
		}
		was := s.Text()
		for _, name := range commands()[2:] {
			wantTold(t, s, name, want)
		}
		if s.Text() != was {
			t.Errorf("Text %q", s.Text())
		}
	}
}

// TestNoLife: P30.1: of a text without lives.
func TestNoLife(t *testing.T) {
	s := laid(t, head)
	for name, want := range map[string]string{
		"!lines": "3", "!check": "ok", "!print": strings.TrimSuffix(head, "\n"), "!play": "end 1", "!items": `"/" dir 1 0 2`,
		"!explain": "explained", "!model": "", "!fsck": "clean", "!writes": "0",
	} {
		wantTold(t, s, name, want)
	}
	wantTold(t, s, "life 0", "")
	wantTold(t, s, "!play", "life 0 mount 0\nbegun 0 ended 0 writes 0\nend 1")
	wantTold(t, s, "!model", "")
	wantTold(t, s, "!writes", "0")
	wantTold(t, s, "!fsck", "clean")
}

// lives is a text of lives the power of which goes.
const lives = head + `life 4
open "/f" 1
write 0 0 "one\x00\""
mkdir "/d"
sync
link "/f" "/d/g"
sync
read 0 0 9
keep 0 1
life 1
stat "/f"
life -1
list "/"
stat "/f"
open "/f" 0
read 0 0 9
close 3
`

// TestPlay: P30.1: what is told of lives: the mounts, each result, what has begun and ended, and how many writes there were; how many items there are in the end.
func TestPlay(t *testing.T) {
	s := laid(t, lives)
	wantTold(t, s, "!play", strings.Join([]string{
		"life 0 mount 0", "0", "5", "ok", "ok", "ok", "ok", `"one\x00\""`, "begun 4 ended 3 writes 4",
		"life 1 mount 0", "2 file 5 1", "begun 0 ended 0 writes 1",
		"life 2 mount 0", `"d" "f"`, "2 file 5 1", "0", `"one\x00\""`, "error 237", "begun 5 ended 5 writes 4",
		"end 3"}, "\n"))
	wantTold(t, s, "!items", strings.Join([]string{`"/" dir 1 0 3`, `"/d" dir 3 0 2`, `"/f" file 2 5 1 "one\x00\""`}, "\n"))
	wantTold(t, s, "!explain", "explained")
}

// TestModel: P30.1: all operations are done in one world, whose descriptors stay open from life to life.
func TestModel(t *testing.T) {
	s := laid(t, head+"life 0\nopen \"/f\" 1\nwrite 0 2 \"ab\"\nkeep 1\nlife -1\nread 0 0 9\nunlink \"/f\"\nlife 7\nread 0 1 2\nopen \"/f\" 1\nstat \"/f\"\nlist \"/\"\nclose 0\nrmdir \"/f\"\nlist \"/f\"\n")
	wantTold(t, s, "!model", strings.Join([]string{"0", "2", `"\x00\x00ab"`, "ok", `"\x00a"`, "1", "3 file 0 1", `"f"`, "ok", "error 233", "error 233"}, "\n"))
}

// TestFirst: P30.1: !fsck and !writes are of the first life's operations alone, without its Stop.
func TestFirst(t *testing.T) {
	first := head + "life 0\nmkdir \"/d\"\nsync\n"
	for _, text := range []string{first, first + "keep 0\n", first + "life -1\nmkdir \"/e\"\nsync\ncheckpoint\n"} {
		s := laid(t, text)
		wantTold(t, s, "!writes", "2")
		wantTold(t, s, "!fsck", "clean")
	}
	s := laid(t, head+"life -1\nlife -1\nmkdir \"/e\"\nsync\n")
	wantTold(t, s, "!writes", "0")
}

// TestItems: P30.1: items rise by their paths; a file stands there by each of its names.
func TestItems(t *testing.T) {
	s := laid(t, head+"life -1\nmkdir \"/b\"\nopen \"/b/f\" 1\nwrite 0 0 \"x\\\\\"\nlink \"/b/f\" \"/a\"\nmkdir \"/b/\\xff\"\nopen \"/c\" 1\nsync\n")
	wantTold(t, s, "!items", strings.Join([]string{`"/" dir 1 0 3`, `"/a" file 3 2 2 "x\\"`, `"/b" dir 2 0 3`, `"/b/f" file 3 2 2 "x\\"`, `"/b/\xff" dir 4 0 2`, `"/c" file 5 0 1 ""`}, "\n"))
	wantTold(t, s, "!fsck", "clean")
}

// TestRun: P30.2: what is told of the lines of a text, one behind the other.
func TestRun(t *testing.T) {
	wantRun(t, "", "")
	wantRun(t, "\n", "")
	wantRun(t, "a", "")
	wantRun(t, "\n\n!lines", "2\n")
	wantRun(t, "\n\n!lines\n", "2\n")
	wantRun(t, "!lines\n\n!lines\n!lines\n\n!lines", "0\n1\n1\n2\n")
	wantRun(t, "a\n!x\n!lines\n!new\n!lines\nb\n!lines\n", "error 300\n1\n0\n0\n1\n")
	wantRun(t, "a\r\n!lines\r\n!lines", "error 300\n1\n")
	wantRun(t, head+"!model\n!check\n!model", "ok\n")
	wantRun(t, example+"!explain\n!items\n!fsck\n!model\n", "explained\n\"/\" dir 1 0 2\n\"/f\" file 2 5 1 \"hello\"\nclean\n0\n5\nok\n")
	wantRun(t, "!new\n", "0\n")
	wantRun(t, "!", "error 300\n")
}

// TestRunLong: P30.2: how long a text may be; a line too much of one that may is told like others.
func TestRunLong(t *testing.T) {
	wantRun(t, strings.Repeat("a", api.MaxText+1), "error 3")
	wantRun(t, strings.Repeat("!new\n", api.MaxText/5+1), "error 3")
	wantRun(t, strings.Repeat("\n", 2*api.MaxText), "error 3")
	wantRun(t, strings.Repeat("a", api.MaxText), "error 3\n")
	wantRun(t, strings.Repeat("a", api.MaxText-1), "")
	wantRun(t, strings.Repeat("a", api.MaxText-1)+"\n", "")
	wantRun(t, strings.Repeat("\n", api.MaxText), "")
	wantRun(t, strings.Repeat("\n", api.MaxText-6)+"!lines", strconv.Itoa(api.MaxText-6)+"\n")
	wantRun(t, strings.Repeat("!x\n", api.MaxText/3), strings.Repeat("error 300\n", api.MaxText/3))
}
