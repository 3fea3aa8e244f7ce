package script_test

import (
	"math"
	"math/rand"
	"regexp"
	"strings"
	"testing"

	"dedup/api"
	"dedup/script"
)

// quotedForm is what is a quoted text: each byte in its only form.
const quotedForm = `"(?:[ !#-\[\]-~]|\\["\\]|\\x(?:[01][0-9a-f]|7f|[89a-f][0-9a-f]))*"`

// numberForm is what is a number.
const numberForm = `(?:0|-?[1-9][0-9]{0,17})`

// whole is a form that a text must have whole, newlines too.
func whole(form string) *regexp.Regexp {
	return regexp.MustCompile(`\A(?:` + form + `)\z`)
}

// allTexts calls something with all texts of these letters, up to a length.
func allTexts(letters string, most int, do func(s string)) {
	var more func(s string)
	more = func(s string) {
		do(s)
		if len(s) == most {
			return
		}
		for i := range len(letters) {
			more(s + letters[i:i+1])
		}
	}
	more("")
}

// TestQuote: P26.1: each byte alone, and some texts.
func TestQuote(t *testing.T) {
	for b := range 256 {
		want := string([]byte{byte(b)})
		if b < 32 || b > 126 {
			want = `\x` + string("0123456789abcdef"[b/16]) + string("0123456789abcdef"[b%16])
		}
		if b == '"' || b == '\\' {
			want = `\` + want
		}
		s := string([]byte{byte(b)})
		if got := script.Quote(s); got != `"`+want+`"` {
			t.Errorf("Quote of %q: %s, want %s", s, got, want)
		}
		if back, ok := script.Unquote(`"` + want + `"`); !ok || back != s {
			t.Errorf("Unquote of %s: %q %v", want, back, ok)
		}
	}
	for s, want := range map[string]string{
		"": `""`, "a b": `"a b"`, "\x00\xff\n": `"\x00\xff\x0a"`, `\x41`: `"\\x41"`, `"`: `"\""`, "ä": `"\xc3\xa4"`, "~\x7f\x80": `"~\x7f\x80"`,
	} {
		if got := script.Quote(s); got != want {
			t.Errorf("Quote of %q: %s, want %s", s, got, want)
		}
	}
}

// TestUnquote: P26.1, P26.4: of all short texts: those of the form are taken, and quoted again they are the same; no other one is.
func TestUnquote(t *testing.T) {
	form := whole(quotedForm)
	taken := 0
	look := func(s string) {
		back, ok := script.Unquote(s)
		if ok != form.MatchString(s) || !ok && back != "" {
			t.Fatalf("Unquote of %q: %q %v", s, back, ok)
		}
		if ok && script.Quote(back) != s {
			t.Fatalf("Quote of Unquote of %q: %q", s, back)
		}
		if ok {
			taken++
		}
	}
	allTexts("\"\\x0af", 6, look)
	allTexts("\"\\xA7g \n\x80", 5, look)
	allTexts("0127afF", 4, func(s string) { look(`"\x` + s + `"`) })
	if taken < 500 {
		t.Error("too few", taken)
	}
}

// TestQuoteAny: P26.4: Unquote of Quote is the text.
func TestQuoteAny(t *testing.T) {
	r := rand.New(rand.NewSource(26))
	for range 2000 {
		b := make([]byte, r.Intn(100))
		r.Read(b)
		if back, ok := script.Unquote(script.Quote(string(b))); !ok || back != string(b) {
			t.Fatalf("%q: %q %v", b, back, ok)
		}
	}
	long := strings.Repeat("\x00\"\\a", 1<<18)
	if back, ok := script.Unquote(script.Quote(long)); !ok || back != long {
		t.Error("a long one")
	}
}

// told is an operation and its line.
type told struct {
	o    api.Op
	line string
}

// examples is a line of each kind.
func examples() []told {
	return []told{
		{api.Op{Kind: api.OpOpen, Path: "/f", Flags: 5}, `open "/f" 5`},
		{api.Op{Kind: api.OpClose, Handle: 3}, `close 3`},
		{api.Op{Kind: api.OpRead, Handle: 1, Offset: -1, N: 9}, `read 1 -1 9`},
		{api.Op{Kind: api.OpWrite, Handle: 0, Offset: 5, Data: "a b"}, `write 0 5 "a b"`},
		{api.Op{Kind: api.OpTruncate, Handle: 2, N: 1 << 20}, `truncate 2 1048576`},
		{api.Op{Kind: api.OpStat, Path: "/a"}, `stat "/a"`},
		{api.Op{Kind: api.OpList, Path: "/"}, `list "/"`},
		{api.Op{Kind: api.OpMkdir, Path: ""}, `mkdir ""`},
		{api.Op{Kind: api.OpRmdir, Path: "/a\n"}, `rmdir "/a\x0a"`},
		{api.Op{Kind: api.OpLink, Path: "/f", Other: "/g"}, `link "/f" "/g"`},
		{api.Op{Kind: api.OpUnlink, Path: `/"`}, `unlink "/\""`},
		{api.Op{Kind: api.OpRename, Path: `\" "`, Other: " "}, `rename "\\\" \"" " "`},
		{api.Op{Kind: api.OpFsync, Handle: -999999999999999999}, `fsync -999999999999999999`},
		{api.Op{Kind: api.OpSync}, `sync`},
		{api.Op{Kind: api.OpCheckpoint}, `checkpoint`},
		{api.Op{Kind: api.OpClean}, `clean`},
		{api.Op{Kind: api.OpCompact}, `compact`},
		{api.Op{Kind: api.OpEvict}, `evict`},
		{api.Op{Kind: api.OpRemount}, `remount`},
	}
}

// TestOps: P26.1, P26.4: each kind's line, there and back.
func TestOps(t *testing.T) {
	for i, x := range examples() {
		if x.o.Kind != i+1 {
			t.Fatal("a kind is missing", i)
		}
		if line, e := script.PrintOp(x.o); e != api.OK || line != x.line {
			t.Errorf("PrintOp of %v: %q %d, want %q", x.o, line, e, x.line)
		}
		if o, e := script.ParseOp(x.line); e != api.OK || o != x.o {
			t.Errorf("ParseOp of %q: %v %d, want %v", x.line, o, e, x.o)
		}
	}
}

// wantNoLine holds that an operation may not be told.
func wantNoLine(t *testing.T, o api.Op) {
	t.Helper()
	if line, e := script.PrintOp(o); line != "" || e != api.ErrLine {
		t.Errorf("PrintOp of %v: %q %d", o, line, e)
	}
}

// TestPrintOpRefused: P26.1: another kind, a number of too many digits, a field that the line does not name.
func TestPrintOpRefused(t *testing.T) {
	for _, kind := range []int{0, -1, 20, math.MaxInt, math.MinInt} {
		wantNoLine(t, api.Op{Kind: kind})
	}
	named := map[int]string{1: "PF", 2: "H", 3: "HON", 4: "HOD", 5: "HN", 6: "P", 7: "P", 8: "P", 9: "P", 10: "PQ", 11: "P", 12: "PQ", 13: "H"}
	for kind := 1; kind <= 19; kind++ {
		for _, field := range "PQDHONF" {
			var o, long, least api.Op
			switch field {
			case 'P':
				o.Path = "x"
			case 'Q':
				o.Other = "x"
			case 'D':
				o.Data = "x"
			case 'H':
				o.Handle, long.Handle, least.Handle = 1, 1e18, -1e18
			case 'O':
				o.Offset, long.Offset, least.Offset = -1, 1e18, math.MinInt
			case 'N':
				o.N, long.N, least.N = 1, math.MaxInt, -1e18
			case 'F':
				o.Flags, long.Flags, least.Flags = 8, 1e18, -1e18
			}
			o.Kind, long.Kind, least.Kind = kind, kind, kind
			if !strings.ContainsRune(named[kind], field) {
				wantNoLine(t, o)
				continue
			}
			if line, e := script.PrintOp(o); e != api.OK || line == "" {
				t.Error("PrintOp", o, line, e)
			}
			if field != 'P' && field != 'Q' && field != 'D' {
				wantNoLine(t, long)
				wantNoLine(t, least)
			}
		}
	}
	most := api.Op{Kind: api.OpRead, Handle: 1e18 - 1, Offset: -1e18 + 1}
	if line, e := script.PrintOp(most); e != api.OK || line != "read 999999999999999999 -999999999999999999 0" {
		t.Error("18 digits", line, e)
	}
}

// TestParseOpRefused: P26.1: lines of no operation.
func TestParseOpRefused(t *testing.T) {
	for _, line := range []string{
		"", " ", "x", "open", "opens", "Open", `open "/f"`, `open "/f" 1 1`, `open "/f" `, ` open "/f" 1`, `open  "/f" 1`, `open "/f"  1`, `open "/f"1`, `open /f 1`, `open 1 "/f"`,
		"close", "close 01", "close -0", "close +1", "close 00", "close 1000000000000000000", "close -1000000000000000000", "close 99999999999999999999999", "close a", "close 1 ", "close 1\n", "close\t1", "close -", "close --1", "close 1e3", "close 0x1", "close 1_0", `close "1"`, "close ١",
		`mkdir "/a" 1`, `mkdir "/a`, `mkdir /a"`, `mkdir "`, `mkdir "a"b"`, `mkdir "\"`, `mkdir "\a"`, `mkdir "\x4"`, `mkdir "\x41"`, `mkdir "\xFF"`, "mkdir \"\n\"", "mkdir \"\x80\"", `mkdir "" ""`,
		`write 0 5 ab`, `write 0 "ab" 5`, `write "ab"`, `write 0 5 "ab" `, `link "/a"`, `link "/a""/b"`, `link "/a"  "/b"`, `rename "/a" "/b" "/c"`,
		"sync ", " sync", "sync sync", "sync 0", "sync\n", "SYNC", "syncs", "life 3", "keep 1", "volume 512 64 8 4", "read 0 0", "read 0 0 0 0", "truncate 0", "error 1",
	} {
		if o, e := script.ParseOp(line); o != (api.Op{}) || e != api.ErrLine {
			t.Errorf("ParseOp of %q: %v %d", line, o, e)
		}
	}
}

// opForm is what is an operation's line.
func opForm() string {
	q, n := ` `+quotedForm, ` `+numberForm
	return `open` + q + n + `|close` + n + `|read` + n + n + n + `|write` + n + n + q + `|truncate` + n + n +
		`|(?:stat|list|mkdir|rmdir|unlink)` + q + `|(?:link|rename)` + q + q + `|fsync` + n +
		`|sync|checkpoint|clean|compact|evict|remount`
}

// spoilt is a text with some bytes that are others, more or fewer.
func spoilt(r *rand.Rand, s string) string {
	const letters = "\" \\x0a1-9\n"
	b := []byte(s)
	for range r.Intn(3) {
		at := r.Intn(len(b) + 1)
		letter := letters[r.Intn(len(letters))]
		switch {
		case r.Intn(3) == 0:
			b = append(b[:at:at], append([]byte{letter}, b[at:]...)...)
		case at == len(b):
		case r.Intn(2) == 0:
			b[at] = letter
		default:
			b = append(b[:at:at], b[at+1:]...)
		}
	}
	return string(b)
}

// TestParseOpAny: P26.1, P26.4: of lines that were spoilt those of the form are taken, and told again they are the same; no other one is.
func TestParseOpAny(t *testing.T) {
	r := rand.New(rand.NewSource(261))
	taken, refused := 0, 0
	for range 200000 {
		l := examples()
		line := spoilt(r, l[r.Intn(len(l))].line)
		o, e := script.ParseOp(line)
		if (e == api.OK) != opLine.MatchString(line) {
			t.Fatalf("ParseOp of %q: %v %d", line, o, e)
		}
		if e != api.OK {
			refused++
			if o != (api.Op{}) || e != api.ErrLine {
				t.Fatalf("ParseOp of %q: %v %d", line, o, e)
			}
			continue
		}
		taken++
		if again, e := script.PrintOp(o); e != api.OK || again != line {
			t.Fatalf("PrintOp of ParseOp of %q: %q %d", line, again, e)
		}
	}
	if taken < 50000 || refused < 50000 {
		t.Error("too few", taken, refused)
	}
}

// anyOp is an operation that may be told.
func anyOp(r *rand.Rand) api.Op {
	text := func() string {
		b := make([]byte, r.Intn(12))
		r.Read(b)
		return string(b)
	}
	number := func() int {
		n := r.Intn(1e18) >> r.Intn(60)
		return n * (1 - 2*r.Intn(2))
	}
	o := api.Op{Kind: 1 + r.Intn(19)}
	switch o.Kind {
	case api.OpOpen:
		o.Path, o.Flags = text(), number()
	case api.OpClose, api.OpFsync:
		o.Handle = number()
	case api.OpRead:
		o.Handle, o.Offset, o.N = number(), number(), number()
	case api.OpWrite:
		o.Handle, o.Offset, o.Data = number(), number(), text()
	case api.OpTruncate:
		o.Handle, o.N = number(), number()
	case api.OpStat, api.OpList, api.OpMkdir, api.OpRmdir, api.OpUnlink:
		o.Path = text()
	case api.OpLink, api.OpRename:
		o.Path, o.Other = text(), text()
	}
	return o
}

// TestOpsThereAndBack: P26.4: ParseOp of PrintOp is the operation.
func TestOpsThereAndBack(t *testing.T) {
	r := rand.New(rand.NewSource(262))
	for range 20000 {
		o := anyOp(r)
		line, e := script.PrintOp(o)
		if e != api.OK {
			t.Fatal("PrintOp", o, e)
		}
		if back, e := script.ParseOp(line); e != api.OK || back != o {
			t.Fatalf("ParseOp of %q: %v %d, want %v", line, back, e, o)
		}
	}
}

// TestPrintResult: P26.1: of any operation and result.
func TestPrintResult(t *testing.T) {
	all := api.Result{Handle: 7, N: 8, Data: "a\n", Stat: api.Stat{Number: 2, Dir: true, Size: 5, Links: 3}, Names: []string{"b", "", `a"`}}
	for kind, want := range map[int]string{
		api.OpOpen: "7", api.OpRead: `"a\x0a"`, api.OpWrite: "8", api.OpStat: "2 dir 5 3", api.OpList: `"b" "" "a\""`,
		api.OpClose: "ok", api.OpTruncate: "ok", api.OpMkdir: "ok", api.OpRmdir: "ok", api.OpLink: "ok", api.OpUnlink: "ok", api.OpRename: "ok",
		api.OpFsync: "ok", api.OpSync: "ok", api.OpCheckpoint: "ok", api.OpClean: "ok", api.OpCompact: "ok", api.OpEvict: "ok", api.OpRemount: "ok",
		0: "ok", 20: "ok", -1: "ok",
	} {
		if got := script.PrintResult(api.Op{Kind: kind, Path: "any", N: 1}, all); got != want {
			t.Errorf("PrintResult of %d: %s, want %s", kind, got, want)
		}
		refused := all
		refused.Err = api.ENoEnt
		if got := script.PrintResult(api.Op{Kind: kind}, refused); got != "error 231" {
			t.Errorf("PrintResult of %d, refused: %s", kind, got)
		}
	}
	for _, x := range []struct {
		kind int
		r    api.Result
		want string
	}{
		{api.OpOpen, api.Result{}, "0"},
		{api.OpOpen, api.Result{Handle: math.MinInt}, "-9223372036854775808"},
		{api.OpWrite, api.Result{N: math.MaxInt}, "9223372036854775807"},
		{api.OpRead, api.Result{}, `""`},
		{api.OpList, api.Result{}, "-"},
		{api.OpList, api.Result{Names: []string{"-"}}, `"-"`},
		{api.OpStat, api.Result{Stat: api.Stat{Number: 3, Size: 1 << 20, Links: 1}}, "3 file 1048576 1"},
		{api.OpStat, api.Result{Stat: api.Stat{Number: -1, Size: math.MaxInt, Links: -2}}, "-1 file 9223372036854775807 -2"},
		{api.OpSync, api.Result{Err: -5}, "error -5"},
		{api.OpOpen, api.Result{Err: 1, Handle: 4}, "error 1"},
	} {
		if got := script.PrintResult(api.Op{Kind: x.kind}, x.r); got != x.want {
			t.Errorf("PrintResult: %s, want %s", got, x.want)
		}
	}
}
