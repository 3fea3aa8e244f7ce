package shell

import (
	"strings"

	"dedup/api"
	"dedup/crash"
	"dedup/fs"
	"dedup/fsck"
	"dedup/model"
	"dedup/script"
)

// desk is the lives of a text that is one.
type desk struct {
	shape api.Shape
	lives []api.Life
}

// command is what a command does, and tells.
type command struct {
	do func(s *Shell) string
}

// commands is all of them, by their names.
func commands() map[string]command {
	return map[string]command{
		"!new":     {(*Shell).clear},
		"!lines":   {(*Shell).count},
		"!check":   {(*Shell).check},
		"!print":   {ofLives(desk.print)},
		"!play":    {ofLives(desk.play)},
		"!items":   {ofLives(desk.items)},
		"!explain": {ofLives(desk.explain)},
		"!model":   {ofLives(desk.model)},
		"!fsck":    {ofLives(desk.fsck)},
		"!writes":  {ofLives(desk.writes)},
	}
}

// ofLives is a command that wants a text of lives: of another one it tells why it is none.
func ofLives(tell func(d desk) string) func(s *Shell) string {
	return func(s *Shell) string {
		d, refused := s.parsed()
		if refused != "" {
			return refused
		}
		return tell(d)
	}
}

// lines is the lines of what is told.
func lines(l []string) string {
	return strings.Join(l, "\n")
}

// print tells the text as script has it.
func (d desk) print() string {
	text, e := script.Print(d.shape, d.lives)
	if e != api.OK {
		return fault(e)
	}
	return strings.TrimSuffix(text, "\n")
}

// ofTale plays the lives, and tells something of what becomes of them.
func (d desk) ofTale(tell func(t api.Tale) string) string {
	t := crash.Play(d.shape, d.lives)
	if t.Err != api.OK {
		return fault(t.Err)
	}
	return tell(t)
}

// play tells what each life was told.
func (d desk) play() string {
	return d.ofTale(func(t api.Tale) string {
		var l []string
		for i, x := range t.Lives {
			l = append(l, joined("life", numbers(i), "mount", numbers(int(x.Mount))))
			for at, r := range x.Results {
				l = append(l, script.PrintResult(d.lives[i].Ops[at], r))
			}
			l = append(l, joined("begun", numbers(x.Begun), "ended", numbers(x.Ended), "writes", numbers(x.Writes)))
		}
		return lines(append(l, joined("end", numbers(len(t.End)))))
	})
}

// items tells what is found in the end.
func (d desk) items() string {
	return d.ofTale(func(t api.Tale) string {
		var l []string
		for _, it := range t.End {
			l = append(l, itemLine(it))
		}
		return lines(l)
	})
}

// itemLine is a file or a directory by one of its paths.
func itemLine(it api.Item) string {
	x := it.Stat
	if x.Dir {
		return joined(script.Quote(it.Path), "dir", numbers(x.Number, x.Size, x.Links))
	}
	return joined(script.Quote(it.Path), "file", numbers(x.Number, x.Size, x.Links), script.Quote(it.Data))
}

// explain tells whether the model explains what becomes of the lives.
func (d desk) explain() string {
	return d.ofTale(func(t api.Tale) string {
		if ok, at := crash.Explain(d.lives, t); !ok {
			return joined("not explained", numbers(at))
		}
		return "explained"
	})
}

// model tells what the model tells of all operations.
func (d desk) model() string {
	w := model.New()
	var l []string
	for _, life := range d.lives {
		for _, o := range life.Ops {
			l = append(l, script.PrintResult(o, w.Do(o)))
		}
	}
	return lines(l)
}

// first is the operations of the first life, if there is one.
func (d desk) first() []api.Op {
	if len(d.lives) == 0 {
		return nil
	}
	return d.lives[0].Ops
}

// fsck tells what the checker finds behind the first life's operations.
func (d desk) fsck() string {
	f, e := fs.Format(d.shape)
	if e != api.OK {
		return fault(e)
	}
	for _, o := range d.first() {
		f.Do(o)
	}
	f.Do(api.Op{Kind: api.OpSync})
	v := fsck.Check(d.shape.Sector, f.Volume().Disk().Image())
	if !v.Clean {
		return joined(fsck.Name(v.Part), fault(v.Err))
	}
	return "clean"
}

// writes tells how many writes and flushes the first life's operations do.
func (d desk) writes() string {
	n, e := crash.Writes(d.shape, d.first())
	if e != api.OK {
		return fault(e)
	}
	return numbers(n)
}
