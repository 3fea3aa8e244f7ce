package script_test

import (
	"math"
	"math/rand"
	"regexp"
	"slices"
	"strconv"
	"strings"
	"testing"

	"dedup/api"
	"dedup/layout"
	"dedup/script"
)

// someShape is a small volume's.
func someShape() api.Shape {
	return api.Shape{Sector: 512, Sectors: 64, Journal: 8, Pack: 4, Cut: api.Cut{Min: 16, Normal: 64, Max: 128, Seed: 7}, Bits: 256, Dedup: true}
}

// head is the lines of someShape.
const head = "volume 512 64 8 4\ncut 16 64 128 7\nindex 256 dedup\n"

// sameLives tells whether lives are the same, nil and the empty list too.
func sameLives(a, b []api.Life) bool {
	return slices.EqualFunc(a, b, func(x, y api.Life) bool {
		return x.Stop == y.Stop && slices.Equal(x.Ops, y.Ops) && slices.Equal(x.Keep, y.Keep)
	})
}

// wantText holds a text of lives, there and back.
func wantText(t *testing.T, s api.Shape, lives []api.Life, want string) {
	t.Helper()
	text, e := script.Print(s, lives)
	if e != api.OK || text != want {
		t.Errorf("Print: %q %d, want %q", text, e, want)
	}
	wantLives(t, want, s, lives)
}

// wantLives holds what Parse tells of a text.
func wantLives(t *testing.T, text string, s api.Shape, lives []api.Life) {
	t.Helper()
	shape, l, e, at := script.Parse(text)
	if e != api.OK || at != 0 || shape != s || !sameLives(l, lives) {
		t.Errorf("Parse of %q: %v %v %d %d", text, shape, l, e, at)
	}
}

// TestText: P26.2 to P26.4: texts of lives.
func TestText(t *testing.T) {
	s := someShape()
	wantText(t, s, nil, head)
	wantText(t, s, []api.Life{{}}, head+"life 0\n")
	wantText(t, s, []api.Life{{Stop: -1}, {Stop: 5, Keep: []int{3, -1, 0, 3}}, {}}, head+"life -1\nlife 5\nkeep 3 -1 0 3\nlife 0\n")
	wantText(t, s, []api.Life{{Ops: []api.Op{{Kind: api.OpSync}, {Kind: api.OpWrite, Data: "a\nb"}}, Keep: []int{1}}, {Ops: []api.Op{{Kind: api.OpEvict}}}},
		head+"life 0\nsync\nwrite 0 0 \"a\\x0ab\"\nkeep 1\nlife 0\nevict\n")
	wantText(t, s, []api.Life{{Stop: 999999999999999999, Keep: []int{-999999999999999999}}}, head+"life 999999999999999999\nkeep -999999999999999999\n")
	s.Bits, s.Dedup, s.Cut.Seed = 0, false, math.MaxUint64
	wantText(t, s, nil, "volume 512 64 8 4\ncut 16 64 128 18446744073709551615\nindex 0 plain\n")
	s.Cut.Seed = 0
	wantText(t, s, nil, "volume 512 64 8 4\ncut 16 64 128 0\nindex 0 plain\n")
	s = api.Shape{Sector: 4096, Sectors: 4096, Journal: 1024, Pack: 64, Cut: api.Cut{Min: 1, Normal: 65536, Max: 262104, Seed: 1 << 63}, Bits: 1, Dedup: true}
	wantText(t, s, []api.Life{{Stop: 1}}, "volume 4096 4096 1024 64\ncut 1 65536 262104 9223372036854775808\nindex 1 dedup\nlife 1\n")
}

// wantPrint holds that Print refuses.
func wantPrint(t *testing.T, what string, s api.Shape, lives []api.Life, want api.Errno) {
	t.Helper()
	if text, e := script.Print(s, lives); text != "" || e != want {
		t.Errorf("%s: %d bytes, %d, want %d", what, len(text), e, want)
	}
}

// ops is so many operations.
func ops(n int, o api.Op) []api.Op {
	return slices.Repeat([]api.Op{o}, n)
}

// TestPrintRefused: P26.2: what is refused, and what is told ahead of what.
func TestPrintRefused(t *testing.T) {
	s := someShape()
	bad, none := api.Op{Kind: 20}, api.Op{Kind: api.OpSync}
	long := strings.Repeat("a", api.MaxText)
	wantPrint(t, "no shape", api.Shape{}, make([]api.Life, 17), api.ErrShape)
	wantPrint(t, "too many lives", s, make([]api.Life, 17), api.ErrLong)
	wantPrint(t, "too many lives, one that may not be told", s, slices.Concat([]api.Life{{Ops: []api.Op{bad}}}, make([]api.Life, 16)), api.ErrLong)
	wantPrint(t, "too many operations", s, []api.Life{{Ops: ops(1000, none)}, {Ops: ops(25, bad)}}, api.ErrLong)
	wantPrint(t, "another kind", s, []api.Life{{Ops: []api.Op{none, bad}}}, api.ErrLine)
	wantPrint(t, "a field", s, []api.Life{{Ops: []api.Op{{Kind: api.OpSync, N: 1}}}}, api.ErrLine)
	wantPrint(t, "a Stop", s, []api.Life{{}, {Stop: 1e18}}, api.ErrLine)
	wantPrint(t, "a Stop below", s, []api.Life{{Stop: math.MinInt}}, api.ErrLine)
	wantPrint(t, "a Keep", s, []api.Life{{Keep: []int{0, 1e18}}}, api.ErrLine)
	wantPrint(t, "a Keep below", s, []api.Life{{Keep: []int{-1e18, 0}}}, api.ErrLine)
	wantPrint(t, "a long text", s, []api.Life{{Ops: []api.Op{{Kind: api.OpMkdir, Path: long}}}}, api.ErrLong)
	wantPrint(t, "a long text, and a Keep", s, []api.Life{{Ops: []api.Op{{Kind: api.OpMkdir, Path: long}}, Keep: []int{1e18}}}, api.ErrLine)
	if text, e := script.Print(s, []api.Life{{Ops: ops(1000, none)}, {Ops: ops(24, none)}}); e != api.OK || strings.Count(text, "sync\n") != 1024 {
		t.Error("1024 operations", e)
	}
	if text, e := script.Print(s, make([]api.Life, 16)); e != api.OK || strings.Count(text, "life 0\n") != 16 {
		t.Error("16 lives", e)
	}
	rest := api.MaxText - len(head+"life 0\n"+"mkdir \"\"\n")
	if text, e := script.Print(s, []api.Life{{Ops: []api.Op{{Kind: api.OpMkdir, Path: long[:rest]}}}}); e != api.OK || len(text) != api.MaxText {
		t.Error("as long as may be", len(text), e)
	}
	wantPrint(t, "a byte more", s, []api.Life{{Ops: []api.Op{{Kind: api.OpMkdir, Path: long[:rest+1]}}}}, api.ErrLong)
}

// wantParse holds that Parse refuses a text.
func wantParse(t *testing.T, text string, want api.Errno, place int) {
	t.Helper()
	s, l, e, at := script.Parse(text)
	if e != want || at != place || s != (api.Shape{}) || l != nil {
		t.Errorf("Parse of %.80q: %v %v %d at %d, want %d at %d", text, s, l, e, at, want, place)
	}
}

// TestParseRefused: P26.3: what is refused, at which line, and what is told ahead of what.
func TestParseRefused(t *testing.T) {
	wantParse(t, "", api.ErrLine, 0)
	for i, text := range []string{"", "volume 512 64 8 4\n", "volume 512 64 8 4\ncut 16 64 128 7\n"} {
		wantParse(t, text, api.ErrLine, i)
		wantParse(t, text+"\n", api.ErrLine, i)
		wantParse(t, text+"x\n", api.ErrLine, i)
		wantParse(t, text+"life 0\n", api.ErrLine, i)
		wantParse(t, text+"sync\n", api.ErrLine, i)
	}
	for i, line := range strings.SplitAfter(head, "\n")[:3] {
		ahead, behind := head[:strings.Index(head, line)], "life 0\n"
		for _, bad := range []string{
			strings.TrimSuffix(line, "\n"), " " + line, strings.Replace(line, " ", "  ", 1), strings.Replace(line, "\n", " \n", 1), strings.Replace(line, "\n", " 1\n", 1),
			strings.ToUpper(line), line[:strings.LastIndex(line, " ")] + "\n", line[:strings.LastIndex(line, " ")] + " x\n", strings.Replace(line, " ", " 0", 1), strings.Replace(line, " ", " +", 1),
			strings.Replace(line, " ", " 1000000000000000000", 1), strings.Replace(line, " ", "\t", 1), strings.Replace(line, "\n", "\r\n", 1),
		} {
			wantParse(t, ahead+bad+behind, api.ErrLine, i)
		}
	}
	wantParse(t, "volume 512 64 8 4\nindex 256 dedup\ncut 16 64 128 7\n", api.ErrLine, 1)
	wantParse(t, "volume 512 64 8 4\ncut 16 64 128 -1\nindex 256 dedup\n", api.ErrLine, 1)
	wantParse(t, "volume 512 64 8 4\ncut 16 64 128 18446744073709551616\nindex 256 dedup\n", api.ErrLine, 1)
	wantParse(t, "volume 512 64 8 4\ncut 16 64 128 07\nindex 256 dedup\n", api.ErrLine, 1)
	wantParse(t, "volume 512 64 8 4\ncut 16 64 128 7\nindex 256 Dedup\n", api.ErrLine, 2)
	wantParse(t, "volume 512 64 8 4\ncut 16 64 128 7\nindex dedup\n", api.ErrLine, 2)
	for _, x := range []struct {
		text  string
		place int
	}{
		{"sync\n", 3}, {"keep 0\n", 3}, {"\n", 3}, {head, 3}, {"life\n", 3}, {"life 0 0\n", 3}, {"life x\n", 3}, {"life 01\n", 3}, {"life 0", 3}, {"life 1000000000000000000\n", 3}, {"life \"0\"\n", 3},
		{"life 0\nkeep\n", 4}, {"life 0\nkeep 0 x\n", 4}, {"life 0\nkeep 0  1\n", 4}, {"life 0\nkeep 0 \n", 4}, {"life 0\nkeep -1000000000000000000\n", 4},
		{"life 0\nkeep 0\nkeep 1\n", 5}, {"life 0\nkeep 0\nsync\n", 5}, {"life 0\nkeep 0\nlife 0\nsync\nsync x\n", 7},
		{"life 0\nsync", 4}, {"life 0\nsync\n\n", 5}, {"life 0\nvolume 512 64 8 4\n", 4}, {"life 0\nsync\nmkdir \"/a\" 1\nx\n", 5}, {"life 0\nmkdir \"\n\"\n", 4},
	} {
		wantParse(t, head+x.text, api.ErrLine, x.place)
	}
}

// TestParseShape: P26.3: a shape that may not be is told behind all lines, and ahead of how many there are.
func TestParseShape(t *testing.T) {
	small := strings.Replace(head, "64 8", "15 8", 1)
	wantParse(t, small, api.ErrShape, 0)
	wantParse(t, small+"x\n", api.ErrLine, 3)
	wantParse(t, small+strings.Repeat("life 0\n", 17), api.ErrShape, 0)
	wantParse(t, strings.Replace(head, "512", "-512", 1), api.ErrShape, 0)
	wantParse(t, strings.Replace(head, "512", "999999999999999999", 1), api.ErrShape, 0)
	wantParse(t, strings.Replace(head, "256", "257", 1), api.ErrShape, 0)
	wantParse(t, strings.Replace(head, "256", "-1", 1), api.ErrShape, 0)
	wantParse(t, strings.Replace(head, "cut 16", "cut 0", 1), api.ErrShape, 0)
}

// TestParseLong: P26.3: too many lives, operations, bytes.
func TestParseLong(t *testing.T) {
	lives := func(n int) []api.Life { return make([]api.Life, n) }
	wantLives(t, head+strings.Repeat("life 0\n", 16), someShape(), lives(16))
	wantParse(t, head+strings.Repeat("life 0\n", 17), api.ErrLong, 0)
	wantParse(t, head+strings.Repeat("life 0\n", 17)+"x\n", api.ErrLine, 20)
	many := head + "life 0\n" + strings.Repeat("sync\n", 1000) + "life 0\n"
	wantLives(t, many+strings.Repeat("sync\n", 24), someShape(), []api.Life{{Ops: ops(1000, api.Op{Kind: api.OpSync})}, {Ops: ops(24, api.Op{Kind: api.OpSync})}})
	wantParse(t, many+strings.Repeat("sync\n", 25), api.ErrLong, 0)
	wantParse(t, many+strings.Repeat("sync\n", 25)+"sync", api.ErrLine, 3+1+1000+1+25)
	rest := api.MaxText - len(head+"life 0\nmkdir \"\"\n")
	path := strings.Repeat("a", rest)
	wantLives(t, head+"life 0\nmkdir \""+path+"\"\n", someShape(), []api.Life{{Ops: []api.Op{{Kind: api.OpMkdir, Path: path}}}})
	wantParse(t, head+"life 0\nmkdir \"a"+path+"\"\n", api.ErrLong, 0)
	wantParse(t, strings.Repeat("x", api.MaxText+1), api.ErrLong, 0)
	wantParse(t, strings.Repeat("x", api.MaxText), api.ErrLine, 0)
	syncs := (api.MaxText - len(head) - 7) / 5
	wantParse(t, head+"life 0\n"+strings.Repeat("sync\n", syncs), api.ErrLong, 0)
}

// anyLives is lives that may be told.
func anyLives(r *rand.Rand) []api.Life {
	l := make([]api.Life, r.Intn(5))
	for i := range l {
		l[i].Stop = r.Intn(40) - 5
		for range r.Intn(6) {
			l[i].Ops = append(l[i].Ops, anyOp(r))
		}
		for range r.Intn(2) * r.Intn(5) {
			l[i].Keep = append(l[i].Keep, r.Intn(9)-1)
		}
	}
	return l
}

// anyShape is a shape that may be.
func anyShape(r *rand.Rand) api.Shape {
	s := someShape()
	s.Sector, s.Sectors, s.Bits = 512<<r.Intn(4), 64+r.Intn(1000), r.Intn(257)
	s.Cut.Seed, s.Dedup = r.Uint64()>>r.Intn(64), r.Intn(2) == 0
	return s
}

// The forms of lines.
var (
	opLine    = whole(opForm())
	lifeLine  = whole(`life ` + numberForm)
	keepLine  = whole(`keep(?: ` + numberForm + `)+`)
	headLines = []*regexp.Regexp{
		whole(`volume(?: ` + numberForm + `){4}`),
		whole(`cut(?: ` + numberForm + `){3} (?:0|[1-9][0-9]{0,19})`),
		whole(`index ` + numberForm + ` (?:dedup|plain)`),
	}
)

// placeOf is the number of the first line of a text that can't stand there, by forms of lines; how many lines there are, if there are fewer than three; -1, if all can stand.
func placeOf(text string) int {
	lines := strings.SplitAfter(text, "\n")
	if lines[len(lines)-1] == "" {
		lines = lines[:len(lines)-1]
	}
	within := false
	for i, line := range lines {
		line, ended := strings.CutSuffix(line, "\n")
		ok := ended
		switch {
		case i < 3:
			ok = ok && headLines[i].MatchString(line) && (i != 1 || maySeed(line))
		case lifeLine.MatchString(line):
			within = true
		case keepLine.MatchString(line):
			ok = ok && within
			within = false
		default:
			ok = ok && within && opLine.MatchString(line)
		}
		if !ok {
			return i
		}
	}
	if len(lines) < 3 {
		return len(lines)
	}
	return -1
}

// maySeed tells whether a line's last word is at most 2^64 - 1.
func maySeed(line string) bool {
	_, err := strconv.ParseUint(line[strings.LastIndex(line, " ")+1:], 10, 64)
	return err == nil
}

// TestTextsThereAndBack: P26.2 to P26.4: Parse of Print is the shape and the lives; of texts that were spoilt those whose lines can stand are taken, and told again they are the same; of others the first line that can't is told.
func TestTextsThereAndBack(t *testing.T) {
	r := rand.New(rand.NewSource(263))
	taken, refused := 0, 0
	for range 4000 {
		s, lives := anyShape(r), anyLives(r)
		text, e := script.Print(s, lives)
		if e != api.OK {
			t.Fatal("Print", s, lives, e)
		}
		wantLives(t, text, s, lives)
		if r.Intn(3) == 0 {
			text = swapped(r, text)
		}
		text = spoilt(r, text)
		place := placeOf(text)
		s, lives, e, at := script.Parse(text)
		if place >= 0 {
			refused++
			if e != api.ErrLine || at != place || s != (api.Shape{}) || lives != nil {
				t.Fatalf("Parse of %q: %d at %d, want at %d", text, e, at, place)
			}
			continue
		}
		if e != api.OK && e != api.ErrShape || at != 0 {
			t.Fatalf("Parse of %q: %d at %d", text, e, at)
		}
		if e == api.OK {
			taken++
			if again, e := script.Print(s, lives); e != api.OK || again != text || layout.Check(s) != api.OK {
				t.Fatalf("Print of Parse of %q: %q %d", text, again, e)
			}
		}
	}
	if taken < 500 || refused < 500 {
		t.Error("too few", taken, refused)
	}
}

// swapped is a text with one of its lines in another place.
func swapped(r *rand.Rand, text string) string {
	l := strings.SplitAfter(text, "\n")
	i, j := r.Intn(len(l)), r.Intn(len(l))
	l[i], l[j] = l[j], l[i]
	return strings.Join(l, "")
}

// TestApart: R3: what Parse answers shares nothing: what is done to one list is not done to another.
func TestApart(t *testing.T) {
	_, l, e, _ := script.Parse(head + "life 0\nsync\nkeep 1 2\nlife 0\nclean\nkeep 3\n")
	if e != api.OK {
		t.Fatal("Parse", e)
	}
	_ = append(l[0].Ops, api.Op{Kind: 99})
	_ = append(l[0].Keep, 99)
	l[0].Ops[0].Kind = 98
	if l[1].Ops[0].Kind != api.OpClean || l[1].Keep[0] != 3 {
		t.Error("shared", l)
	}
	lives := []api.Life{{Ops: ops(2, api.Op{Kind: api.OpRead, N: 4}), Keep: []int{5}}}
	if _, e := script.Print(someShape(), lives); e != api.OK || lives[0].Ops[0] != (api.Op{Kind: api.OpRead, N: 4}) || lives[0].Keep[0] != 5 {
		t.Error("what was handed in has changed", lives, e)
	}
}
