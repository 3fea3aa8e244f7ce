package crash_test

import (
	"math"
	"slices"
	"testing"

	"dedup/api"
	"dedup/crash"
	"dedup/model"
)

// ideal is what would become of lives on a disk on which everything persists at once, by the model.
func ideal(lives []api.Life) api.Tale {
	w := model.New()
	var t api.Tale
	for _, life := range lives {
		x := api.Lived{Mounted: true, Items: w.Items(), Begun: len(life.Ops), Ended: len(life.Ops)}
		for _, o := range life.Ops {
			x.Results = append(x.Results, w.Do(o))
		}
		t.Lives = append(t.Lives, x)
		w = w.Restart()
	}
	t.End = w.Items()
	return t
}

// livesOf is lives of these operations.
func livesOf(l ...[]api.Op) []api.Life {
	var lives []api.Life
	for _, ops := range l {
		lives = append(lives, api.Life{Ops: ops, Stop: -1})
	}
	return lives
}

// itemsBehind is what the model has behind operations, as a mount finds it.
func itemsBehind(ops ...api.Op) []api.Item {
	w := model.New()
	for _, o := range ops {
		w.Do(o)
	}
	return w.Restart().Items()
}

// wantExplained holds that a tale is explained, or which life is not (below 0: all are).
func wantExplained(t *testing.T, what string, lives []api.Life, tale api.Tale, at int) {
	t.Helper()
	ok, got := crash.Explain(lives, tale)
	if ok != (at < 0) || got != max(at, 0) {
		t.Errorf("%s: %v %d, want %d", what, ok, got, at)
	}
}

// twice is the lives of the tests: what is synced, what is not, and what comes behind it.
func twice() []api.Life {
	return livesOf(
		[]api.Op{create("/f"), write(0, 0, "abc"), of(api.OpSync), by(api.OpMkdir, "/d"), write(0, 3, "def")},
		[]api.Op{by(api.OpStat, "/f"), create("/f"), read(0, 0, 9), fsync(0), closing(0)},
	)
}

// TestExplain: P29.3: a tale that may be, and one thing of it after the other that is not so.
func TestExplain(t *testing.T) {
	l := twice()
	for what, c := range map[string]struct {
		change func(x *api.Tale)
		at     int
	}{
		"nothing":                   {func(x *api.Tale) {}, -1},
		"Items of the first life":   {func(x *api.Tale) { x.Lives[0].Items = nil }, 0},
		"more of them":              {func(x *api.Tale) { x.Lives[0].Items = x.End }, 0},
		"a result":                  {func(x *api.Tale) { x.Lives[0].Results[1].N = 2 }, 0},
		"a field too much":          {func(x *api.Tale) { x.Lives[0].Results[2].N = 1 }, 0},
		"the first result":          {func(x *api.Tale) { x.Lives[0].Results[0].Handle = 1 }, 0},
		"the last result":           {func(x *api.Tale) { x.Lives[0].Results[4].Err = api.EFBig }, 0},
		"a result too few":          {func(x *api.Tale) { x.Lives[0].Results = x.Lives[0].Results[:4] }, 0},
		"a result too many":         {func(x *api.Tale) { x.Lives[0].Results = append(x.Lives[0].Results, api.Result{}) }, 0},
		"no results":                {func(x *api.Tale) { x.Lives[0].Results = nil }, 0},
		"Ended below 0":             {func(x *api.Tale) { x.Lives[0].Ended = -1 }, 0},
		"Ended far below 0":         {func(x *api.Tale) { x.Lives[0].Ended = math.MinInt }, 0},
		"Ended above Begun":         {func(x *api.Tale) { x.Lives[0].Begun = 4 }, 0},
		"Begun above the Ops":       {func(x *api.Tale) { x.Lives[0].Begun = 6 }, 0},
		"both above the Ops":        {func(x *api.Tale) { x.Lives[0].Begun, x.Lives[0].Ended = 6, 6 }, 0},
		"Begun far above":           {func(x *api.Tale) { x.Lives[0].Begun = math.MaxInt }, 0},
		"Items of the second life":  {func(x *api.Tale) { x.Lives[1].Items[2].Data = "abd" }, 1},
		"another size of them":      {func(x *api.Tale) { x.Lives[1].Items[2].Stat.Size = 2 }, 1},
		"fewer of them":             {func(x *api.Tale) { x.Lives[1].Items = x.Lives[1].Items[:1] }, 1},
		"a result of the second":    {func(x *api.Tale) { x.Lives[1].Results[2].Data = "abcde" }, 1},
		"numbers of the second":     {func(x *api.Tale) { x.Lives[1].Ended = 6 }, 1},
		"both lives":                {func(x *api.Tale) { x.Lives[1].Ended, x.Lives[0].Items = 6, nil }, 0},
		"End":                       {func(x *api.Tale) { x.End = nil }, 2},
		"an item of it":             {func(x *api.Tale) { x.End[1].Stat.Links = 3 }, 2},
		"End, and the second life":  {func(x *api.Tale) { x.End, x.Lives[1].Begun = nil, 9 }, 1},
		"what is not looked at":     {func(x *api.Tale) { x.Err, x.Lives[0].Mount, x.Lives[1].Writes = 5, 7, -8 }, -1},
		"one life too few":          {func(x *api.Tale) { x.Lives = x.Lives[:1] }, 0},
		"one life too many":         {func(x *api.Tale) { x.Lives = append(x.Lives, api.Lived{}) }, 0},
		"no lives":                  {func(x *api.Tale) { x.Lives = nil }, 0},
		"a life too few, and Items": {func(x *api.Tale) { x.Lives, x.End = x.Lives[:1], nil }, 0},
	} {
		x := ideal(l)
		c.change(&x)
		wantExplained(t, what, l, x, c.at)
	}
}

// TestPrefix: P29.3: what a mount may have found: not less than the last sync that ended, nor more than has begun.
func TestPrefix(t *testing.T) {
	ops := []api.Op{create("/f"), write(0, 0, "a"), fsync(0), write(0, 1, "b"), fsync(3), of(api.OpCheckpoint), write(0, 2, "c"), of(api.OpSync), write(0, 3, "d"), of(api.OpRemount), by(api.OpMkdir, "/e")}
	// How much of the operations any mount finds, when so many have ended.
	least := []int{0, 0, 0, 3, 3, 3, 3, 3, 8, 8, 8, 8}
	for ended := range len(ops) + 1 {
		for begun := ended; begun <= len(ops); begun++ {
			for found := range len(ops) + 1 {
				for _, first := range []bool{true, false} { // End is held as the Items of a life are
					l, at := livesOf(ops, nil), 1
					x := ideal(l)
					x.Lives[0].Begun, x.Lives[0].Ended = begun, ended
					x.Lives[1].Items = itemsBehind(ops[:found]...)
					x.End = x.Lives[1].Items
					if !first {
						l, x.Lives = l[:1], x.Lives[:1]
					}
					may := false
					for n := least[ended]; n <= begun; n++ {
						may = may || slices.Equal(itemsBehind(ops[:n]...), x.End)
					}
					if may {
						at = -1
					}
					wantExplained(t, "found", l, x, at)
				}
			}
		}
	}
}

// TestSyncs: P29.3: which operations let what was there ahead of them last: fsync and sync that ended and were told OK.
func TestSyncs(t *testing.T) {
	for what, c := range map[string]struct {
		o     api.Op
		ended bool
		at    int
	}{
		"sync":                    {of(api.OpSync), true, 1},
		"fsync":                   {fsync(0), true, 1},
		"sync that has not ended": {of(api.OpSync), false, -1},
		"fsync likewise":          {fsync(0), false, -1},
		"fsync that is refused":   {fsync(1), true, -1},
		"checkpoint":              {of(api.OpCheckpoint), true, -1},
		"remount":                 {of(api.OpRemount), true, -1},
		"clean":                   {of(api.OpClean), true, -1},
		"evict":                   {of(api.OpEvict), true, -1},
		"compact":                 {of(api.OpCompact), true, -1},
		"close":                   {closing(0), true, -1},
		"another kind":            {of(99), true, -1},
	} {
		l := livesOf([]api.Op{create("/f"), c.o})
		x := ideal(l)
		x.End = itemsBehind()
		if !c.ended {
			x.Lives[0].Ended = 1
		}
		wantExplained(t, what, l, x, c.at)
		x.End = itemsBehind(create("/f"))
		wantExplained(t, what+", with the file", l, x, -1)
	}
	l := livesOf([]api.Op{create("/f"), of(api.OpSync), by(api.OpMkdir, "/d"), of(api.OpSync), by(api.OpMkdir, "/e"), of(api.OpSync)})
	x := ideal(l)
	x.Lives[0].Ended = 5 // the last sync that ended is the second one
	for n, at := range []int{1, 1, 1, -1, -1, -1, -1} {
		x.End = itemsBehind(l[0].Ops[:n]...)
		wantExplained(t, "several", l, x, at)
	}
}

// TestNoSpace: P29.3: where no room may be told: of changes that the model would not refuse, alone; nothing is done then.
func TestNoSpace(t *testing.T) {
	ahead := []api.Op{create("/f"), write(0, 0, "abc"), by(api.OpMkdir, "/d"), by(api.OpMkdir, "/d/e")}
	open := func(flags int) api.Op { return api.Op{Kind: api.OpOpen, Path: "/f", Flags: flags} }
	for what, c := range map[string]struct {
		o   api.Op
		may bool
	}{
		"create":                  {create("/g"), true},
		"create of one":           {create("/f"), true},
		"truncate it":             {open(api.FlagTruncate), true},
		"open":                    {open(0), false},
		"open, exclusive alone":   {open(api.FlagExclusive), false},
		"create, refused":         {open(api.FlagCreate | api.FlagExclusive), false},
		"create below nothing":    {create("/x/y"), false},
		"close":                   {closing(0), false},
		"read":                    {read(0, 0, 3), false},
		"write":                   {write(0, 1, "x"), true},
		"write the same":          {write(0, 1, "b"), true},
		"write nothing":           {write(0, 1, ""), false},
		"write, refused":          {write(1, 1, "x"), false},
		"write too far":           {write(0, api.MaxFile, "x"), false},
		"truncate":                {api.Op{Kind: api.OpTruncate, N: 2}, true},
		"truncate to the same":    {api.Op{Kind: api.OpTruncate, N: 3}, true},
		"truncate, refused":       {api.Op{Kind: api.OpTruncate, N: -1}, false},
		"stat":                    {by(api.OpStat, "/f"), false},
		"list":                    {by(api.OpList, "/"), false},
		"mkdir":                   {by(api.OpMkdir, "/x"), true},
		"mkdir, refused":          {by(api.OpMkdir, "/d"), false},
		"rmdir":                   {by(api.OpRmdir, "/d/e"), true},
		"rmdir, refused":          {by(api.OpRmdir, "/d"), false},
		"link":                    {api.Op{Kind: api.OpLink, Path: "/f", Other: "/g"}, true},
		"link, refused":           {api.Op{Kind: api.OpLink, Path: "/f", Other: "/f"}, false},
		"unlink":                  {by(api.OpUnlink, "/f"), true},
		"unlink, refused":         {by(api.OpUnlink, "/g"), false},
		"rename":                  {api.Op{Kind: api.OpRename, Path: "/f", Other: "/d/g"}, true},
		"rename to itself":        {api.Op{Kind: api.OpRename, Path: "/f", Other: "/f"}, true},
		"rename, refused":         {api.Op{Kind: api.OpRename, Path: "/d", Other: "/d/e/f"}, false},
		"fsync":                   {fsync(0), false},
		"sync":                    {of(api.OpSync), false},
		"checkpoint":              {of(api.OpCheckpoint), false},
		"clean":                   {of(api.OpClean), false},
		"compact":                 {of(api.OpCompact), false},
		"evict":                   {of(api.OpEvict), false},
		"remount":                 {of(api.OpRemount), false},
		"another kind":            {of(0), false},
		"a kind far from all":     {of(math.MinInt), false},
		"create and truncate one": {open(api.FlagCreate | api.FlagTruncate), true},
	} {
		l := livesOf(append(slices.Clone(ahead), c.o, of(api.OpSync)))
		x := ideal(l)
		done := x.Lives[0].Results[4].Err == api.OK
		wantExplained(t, what+", done", l, x, -1)
		x.Lives[0].Results[4] = api.Result{Err: api.ENoSpc}
		x.End = itemsBehind(ahead...)
		at := -1
		if !c.may {
			at = 0
		}
		wantExplained(t, what+", no room", l, x, at)
		for i, r := range []api.Result{{Err: api.ErrFull}, {Err: api.ENoSpc, N: 1}, {Err: api.ENoSpc, Handle: 1}, {Err: api.ENoSpc, Data: "x"}, {Err: api.ENoSpc, Names: []string{"x"}}, {Err: api.ENoSpc, Stat: api.Stat{Links: 1}}, {Err: api.EIsDir, N: 1}} {
			x.Lives[0].Results[4] = r
			wantExplained(t, what+", "+string(rune('0'+i)), l, x, 0)
		}
		x.Lives[0].Results[4] = api.Result{Err: api.ENoSpc}
		if x.End = itemsBehind(append(slices.Clone(ahead), c.o)...); c.may && done && !slices.Equal(x.End, itemsBehind(ahead...)) {
			at = 1 // it can't be told no room, and be done
		}
		wantExplained(t, what+", no room, yet done", l, x, at)
		x.Lives[0].Ended, x.Lives[0].Begun = 4, 5 // what is told of one that has not ended is not looked at
		wantExplained(t, what+", not ended, done", l, x, -1)
		x.End = itemsBehind(ahead...)
		wantExplained(t, what+", not ended, not done", l, x, -1)
	}
}

// TestNoSpaceBehind: P29.3: what comes behind an operation that was told no room is told as if it had not been asked.
func TestNoSpaceBehind(t *testing.T) {
	ops := []api.Op{create("/f"), write(0, 0, "abc"), write(0, 0, "xyz"), read(0, 0, 9), by(api.OpMkdir, "/d"), create("/d/g"), by(api.OpMkdir, "/e"), by(api.OpStat, "/e")}
	l := livesOf(ops)
	x := ideal(l)
	full := api.Result{Err: api.ENoSpc}
	x.Lives[0].Results = []api.Result{{}, {N: 3}, full, {Data: "abc"}, full, {Err: api.ENoEnt}, {}, {Stat: api.Stat{Number: 3, Dir: true, Links: 2}}}
	x.End = []api.Item{theRoot(3), aDir("/e", 3), aFile("/f", 2, "abc")}
	wantExplained(t, "no room", l, x, -1)
	x.Lives[0].Results[7].Stat.Number = 4
	wantExplained(t, "a number that was not given", l, x, 0)
	x.Lives[0].Results[7].Stat.Number = 3
	x.Lives[0].Results[5] = full
	wantExplained(t, "no room for what can't be", l, x, 0)
	x.Lives[0].Results[5] = api.Result{Err: api.ENoEnt}
	x.Lives[0].Results[3].Data = "xyz"
	wantExplained(t, "no room, yet done", l, x, 0)
}

// TestNotMounted: P29.3: a life whose mount has not ended adds nothing, whatever is told of it.
func TestNotMounted(t *testing.T) {
	ops := []api.Op{create("/f"), of(api.OpSync), by(api.OpMkdir, "/d")}
	l := livesOf(ops, ops, nil, ops)
	full := ideal(livesOf(ops, ops))
	off := api.Lived{Items: full.End, Results: full.Lives[1].Results[:2], Begun: 9, Ended: -3}
	for n := range 4 {
		x := api.Tale{Lives: []api.Lived{full.Lives[0], off, off, full.Lives[1]}, End: full.End}
		x.Lives[3].Items = itemsBehind(ops[:n]...)
		at := 3
		if n >= 2 {
			at = -1
		}
		if n == 2 { // then the directory is new
			x.Lives[3].Results = ideal(livesOf(ops[:2], ops)).Lives[1].Results
		}
		wantExplained(t, "in the middle", l, x, at)
	}
	x := api.Tale{Lives: []api.Lived{off, off, off, full.Lives[0]}, End: full.End}
	wantExplained(t, "the first ones", l, x, -1)
	x.Lives[3].Items = full.End
	wantExplained(t, "the first ones, and items", l, x, 3)
	x = api.Tale{Lives: []api.Lived{full.Lives[0], off, off, off}, End: full.End}
	wantExplained(t, "the last ones", l, x, -1)
	x.End = itemsBehind()
	wantExplained(t, "the last ones, and too little", l, x, 4)
	x = api.Tale{Lives: []api.Lived{off, off, off, off}, End: itemsBehind()}
	wantExplained(t, "all", l, x, -1)
	x.End = full.End
	wantExplained(t, "all, and items", l, x, 4)
	wantExplained(t, "no life", nil, api.Tale{End: itemsBehind()}, -1)
	wantExplained(t, "no life, and no root", nil, api.Tale{}, 0)
	if ok, at := crash.Explain(nil, api.Tale{}); ok || at != 0 {
		t.Error("no life, and no root", ok, at)
	}
}

// TestNextNumbers: P29.3: worlds with the same items go on with other numbers: each of them may be, no other one, and what a later life tells settles it.
func TestNextNumbers(t *testing.T) {
	cycle := []api.Op{by(api.OpMkdir, "/x"), by(api.OpRmdir, "/x")}
	var ops []api.Op
	for range 5 {
		ops = append(ops, cycle...)
	}
	l := livesOf(ops, []api.Op{by(api.OpMkdir, "/y"), by(api.OpStat, "/y")}, []api.Op{by(api.OpMkdir, "/z"), by(api.OpStat, "/z")})
	tale := func(y, z int) api.Tale {
		x := ideal(l)
		x.Lives[1].Results[1].Stat.Number = y
		x.Lives[2].Items = []api.Item{theRoot(3), aDir("/y", y)}
		x.Lives[2].Results[1].Stat.Number = z
		x.End = []api.Item{theRoot(4), aDir("/y", y), aDir("/z", z)}
		return x
	}
	for y := range 10 {
		for z := range 12 {
			at := -1
			if y < 2 || y > 7 {
				at = 1
			} else if z != y+1 {
				at = 2
			}
			wantExplained(t, "numbers", l, tale(y, z), at)
		}
	}
	x := tale(4, 5)
	x.Lives[1].Ended, x.Lives[1].Begun = 0, 1 // nothing is told: the numbers are those that the items tell
	wantExplained(t, "by items", l, x, -1)
	x.Lives[2].Results[1].Stat.Number, x.End[2].Stat.Number = 6, 6
	wantExplained(t, "by items, another one", l, x, 2)
	x.Lives[2].Items = []api.Item{theRoot(2)} // /y was not there, or is not known
	x.Lives[2].Results[1].Stat.Number, x.End = 6, []api.Item{theRoot(3), aDir("/z", 6)}
	wantExplained(t, "without it", l, x, -1)
	x.Lives[2].Results[1].Stat.Number, x.End[1].Stat.Number = 8, 8
	wantExplained(t, "without it, a number that was not given", l, x, 2)
}

// TestRestarted: P29.3: behind a crash descriptors are closed, and files without names are gone.
func TestRestarted(t *testing.T) {
	l := livesOf([]api.Op{create("/f"), write(0, 0, "abc"), by(api.OpUnlink, "/f"), of(api.OpSync)}, []api.Op{read(0, 0, 3), create("/g"), by(api.OpStat, "/g")})
	x := ideal(l)
	wantExplained(t, "as the model has it", l, x, -1)
	if x.Lives[1].Results[0].Err != api.EBadF || x.Lives[1].Results[2].Stat.Number != 3 {
		t.Error("the model", x.Lives[1].Results)
	}
	x.Lives[1].Results[0] = api.Result{Data: "abc"}
	wantExplained(t, "a descriptor that is open", l, x, 1)
	x = ideal(l)
	x.Lives[1].Results[1].Handle = 1
	wantExplained(t, "the next descriptor", l, x, 1)
	x = ideal(l)
	x.Lives[1].Items = itemsBehind(l[0].Ops[:2]...)
	wantExplained(t, "a file that is gone", l, x, 1)
}

// TestManyWorlds: P29.3 with R1: lives of which a mount may have found very many worlds are explained, or not, in the end.
func TestManyWorlds(t *testing.T) {
	var ops []api.Op
	for range 40 {
		ops = append(ops, by(api.OpMkdir, "/x"), by(api.OpRmdir, "/x"))
	}
	l := livesOf(slices.Repeat([][]api.Op{ops}, 12)...)
	x := ideal(l)
	for i := range x.Lives {
		x.Lives[i].Items = itemsBehind()
	}
	wantExplained(t, "many", l, x, -1)
	x.End = itemsBehind(create("/x"))
	wantExplained(t, "many, and another end", l, x, 12)
	far := 2 + 12*40 - 1 // the last number that may have been given
	x.End = []api.Item{theRoot(3), aDir("/x", far)}
	wantExplained(t, "the last number", l, x, -1)
	x.End[1].Stat.Number++
	wantExplained(t, "a number above it", l, x, 12)
	x.End[1].Stat.Number = 1
	wantExplained(t, "a number below all", l, x, 12)
}
